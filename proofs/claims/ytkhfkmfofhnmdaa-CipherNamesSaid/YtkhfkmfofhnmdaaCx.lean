/-
  WALKS of '(desk).best' and Plan. Conditions: lists have at most 1000 elements.
-/
import Derived.Test.YtkhfkmfofhnmdaaCw
import Derived.Carry
import Derived.Laws.EntriesVeiled
namespace Go.Proofs.Ytkhfkmfofhnmdaa
open Go.RowKit

theorem ext_any (gm b2 b3 b5 b6 : Nat) (b : Bk) (A1 A2 A3 : Option Addr) (c1 c2 c3 : Nat) (ls : List Ls) (most : Int) (hok : BookOK b) : ∀ (r : Nat) (x : Eve) (m : List (Eve × Value)) (w : World),
    Fr gm b2 b3 b5 b6 b A1 A2 A3 c1 c2 c3 ls most w → MapAt w gm m → KnownOK b ls most w m → EvOK b.ds.length r x →
    Calls Try.prog 101 #[x.val, .pointer (some ⟨b5, 0, none⟩), .pointer (some ⟨b2, 0, none⟩), .pointer (some ⟨b3, 0, none⟩), .pointer (some ⟨b6, 0, none⟩)] w (ExtPost gm b ls most r x m w)
  | r, x, m, w, hF, hm, hk, hx => by
    cases hl : look m x with
    | some val => exact ext_found gm b2 b3 b5 b6 b A1 A2 A3 c1 c2 c3 ls most r x m val w hF hm hk hx hl
    | none =>
      cases r with
      | zero => exact ext_end gm b2 b3 b5 b6 b A1 A2 A3 c1 c2 c3 ls most x m w hF hm hk hx hl
      | succ r => exact ext_more gm b2 b3 b5 b6 b A1 A2 A3 c1 c2 c3 ls most r hok (fun x m w h1 h2 h3 h4 => ext_any gm b2 b3 b5 b6 b A1 A2 A3 c1 c2 c3 ls most hok r x m w h1 h2 h3 h4) x m w hF hm hk hx hl

def eve0 : Eve := ⟨0, -1, 0, 0, 0, 0, 0⟩
/-- The best plan of a book. -/
def bestI (b : Bk) (ls : List Ls) (most : Int) : List Int × Int := planI b ls most b.ds.length eve0
theorem bestI_in (b : Bk) (ls : List Ls) (most : Int) : 0 ≤ (bestI b ls most).2 ∧ (bestI b ls most).2 ≤ 8 ∧ (bestI b ls most).1.length ≤ b.ds.length := bestF_in _ _ _ _ _

set_option maxRecDepth 100000 in
set_option maxHeartbeats 1500000 in
theorem best_any (b : Bk) (A1 A2 A3 : Option Addr) (c1 c2 c3 : Nat) (ls : List Ls) (most : Int) (w : World) (hok : BookOK b) (hl : RowsAt w (.slice A3 ls.length c3) 2 Ls.cells ls) :
    Calls Try.prog 72 #[.agg #[iv b.n, iv b.w, .slice A1 b.ks.length c1, .slice A2 b.ds.length c2, .slice A3 ls.length c3], iv most] w fun e w' => ∃ v, e = .returned (.agg #[v, iv (bestI b ls most).2]) ∧ OwnI w' v (bestI b ls most).1 ∧ Below w.heap.size w w' := by
  have hmm := @run_makeMap Try.prog
  have HV := Lib.hid hl
  have HOK := Lib.hid hok
  clear hl hok
  go_enter Try.func72, Try.ntmps72
  go_wp2_with fail
  have B2 := ((((((Box.new (w := w) (g := w.heap.size) (t := 98) (cs := #[iv b.n, iv b.w, .slice A1 b.ks.length c1, .slice A2 b.ds.length c2, .slice A3 ls.length c3]) (by simp)).alloc (.cells #[iv most] 3)).alloc (.cells #[.slice none 0 0, iv 0] 113)).alloc (.map #[] 0)).alloc (.cells #[.map (some (w.heap.size + 1 + 1 + 1))] 143)).alloc (.cells #[.func (.func 101) #[] #[.pointer (some ⟨w.heap.size + 1 + 1 + 1 + 1, 0, none⟩), .pointer (some ⟨w.heap.size, 0, none⟩), .pointer (some ⟨w.heap.size + 1, 0, none⟩), .pointer (some ⟨w.heap.size + 1 + 1 + 1 + 1 + 1, 0, none⟩)]] 144))
  have B3 := (((((Box.new (w := (w.alloc (.cells #[iv b.n, iv b.w, .slice A1 b.ks.length c1, .slice A2 b.ds.length c2, .slice A3 ls.length c3] 98))) (g := w.heap.size + 1) (t := 3) (cs := #[iv most]) (by simp)).alloc (.cells #[.slice none 0 0, iv 0] 113)).alloc (.map #[] 0)).alloc (.cells #[.map (some (w.heap.size + 1 + 1 + 1))] 143)).alloc (.cells #[.func (.func 101) #[] #[.pointer (some ⟨w.heap.size + 1 + 1 + 1 + 1, 0, none⟩), .pointer (some ⟨w.heap.size, 0, none⟩), .pointer (some ⟨w.heap.size + 1, 0, none⟩), .pointer (some ⟨w.heap.size + 1 + 1 + 1 + 1 + 1, 0, none⟩)]] 144))
  have B4 := ((((Box.new (w := ((w.alloc (.cells #[iv b.n, iv b.w, .slice A1 b.ks.length c1, .slice A2 b.ds.length c2, .slice A3 ls.length c3] 98)).alloc (.cells #[iv most] 3))) (g := w.heap.size + 1 + 1) (t := 113) (cs := #[.slice none 0 0, iv 0]) (by simp)).alloc (.map #[] 0)).alloc (.cells #[.map (some (w.heap.size + 1 + 1 + 1))] 143)).alloc (.cells #[.func (.func 101) #[] #[.pointer (some ⟨w.heap.size + 1 + 1 + 1 + 1, 0, none⟩), .pointer (some ⟨w.heap.size, 0, none⟩), .pointer (some ⟨w.heap.size + 1, 0, none⟩), .pointer (some ⟨w.heap.size + 1 + 1 + 1 + 1 + 1, 0, none⟩)]] 144))
  have B5 := ((Box.new (w := ((((w.alloc (.cells #[iv b.n, iv b.w, .slice A1 b.ks.length c1, .slice A2 b.ds.length c2, .slice A3 ls.length c3] 98)).alloc (.cells #[iv most] 3)).alloc (.cells #[.slice none 0 0, iv 0] 113)).alloc (.map #[] 0))) (g := w.heap.size + 1 + 1 + 1 + 1) (t := 143) (cs := #[.map (some (w.heap.size + 1 + 1 + 1))]) (by simp)).alloc (.cells #[.func (.func 101) #[] #[.pointer (some ⟨w.heap.size + 1 + 1 + 1 + 1, 0, none⟩), .pointer (some ⟨w.heap.size, 0, none⟩), .pointer (some ⟨w.heap.size + 1, 0, none⟩), .pointer (some ⟨w.heap.size + 1 + 1 + 1 + 1 + 1, 0, none⟩)]] 144))
  have B6 := (Box.new (w := (((((w.alloc (.cells #[iv b.n, iv b.w, .slice A1 b.ks.length c1, .slice A2 b.ds.length c2, .slice A3 ls.length c3] 98)).alloc (.cells #[iv most] 3)).alloc (.cells #[.slice none 0 0, iv 0] 113)).alloc (.map #[] 0)).alloc (.cells #[.map (some (w.heap.size + 1 + 1 + 1))] 143))) (g := w.heap.size + 1 + 1 + 1 + 1 + 1) (t := 144) (cs := #[.func (.func 101) #[] #[.pointer (some ⟨w.heap.size + 1 + 1 + 1 + 1, 0, none⟩), .pointer (some ⟨w.heap.size, 0, none⟩), .pointer (some ⟨w.heap.size + 1, 0, none⟩), .pointer (some ⟨w.heap.size + 1 + 1 + 1 + 1 + 1, 0, none⟩)]]) (by simp))
  have hM : MapAt ((((w.alloc (.cells #[iv b.n, iv b.w, .slice A1 b.ks.length c1, .slice A2 b.ds.length c2, .slice A3 ls.length c3] 98)).alloc (.cells #[iv most] 3)).alloc (.cells #[.slice none 0 0, iv 0] 113)).alloc (.map #[] 0)) (w.heap.size + 1 + 1 + 1) [] := (MapAt.new (w := (((w.alloc (.cells #[iv b.n, iv b.w, .slice A1 b.ks.length c1, .slice A2 b.ds.length c2, .slice A3 ls.length c3] 98)).alloc (.cells #[iv most] 3)).alloc (.cells #[.slice none 0 0, iv 0] 113))) (r := w.heap.size + 1 + 1 + 1) (by simp))
  have hM2 := (hM.kept (up0.alloc (Nat.le_refl _) (.cells #[.map (some (w.heap.size + 1 + 1 + 1))] 143))).kept (up0.alloc (Nat.le_refl _) (.cells #[.func (.func 101) #[] #[.pointer (some ⟨w.heap.size + 1 + 1 + 1 + 1, 0, none⟩), .pointer (some ⟨w.heap.size, 0, none⟩), .pointer (some ⟨w.heap.size + 1, 0, none⟩), .pointer (some ⟨w.heap.size + 1 + 1 + 1 + 1 + 1, 0, none⟩)]] 144))
  have hB : Below w.heap.size w ((((((w.alloc (.cells #[iv b.n, iv b.w, .slice A1 b.ks.length c1, .slice A2 b.ds.length c2, .slice A3 ls.length c3] 98)).alloc (.cells #[iv most] 3)).alloc (.cells #[.slice none 0 0, iv 0] 113)).alloc (.map #[] 0)).alloc (.cells #[.map (some (w.heap.size + 1 + 1 + 1))] 143)).alloc (.cells #[.func (.func 101) #[] #[.pointer (some ⟨w.heap.size + 1 + 1 + 1 + 1, 0, none⟩), .pointer (some ⟨w.heap.size, 0, none⟩), .pointer (some ⟨w.heap.size + 1, 0, none⟩), .pointer (some ⟨w.heap.size + 1 + 1 + 1 + 1 + 1, 0, none⟩)]] 144)) := up_alloc (up_alloc (up_alloc (up_alloc (up_alloc (up_alloc up0 _) _) _) _) _) _
  have hV := HV.out.kept hB
  have HF := Lib.hid (show Fr (w.heap.size + 1 + 1 + 1) w.heap.size (w.heap.size + 1) (w.heap.size + 1 + 1 + 1 + 1) (w.heap.size + 1 + 1 + 1 + 1 + 1) b A1 A2 A3 c1 c2 c3 ls most ((((((w.alloc (.cells #[iv b.n, iv b.w, .slice A1 b.ks.length c1, .slice A2 b.ds.length c2, .slice A3 ls.length c3] 98)).alloc (.cells #[iv most] 3)).alloc (.cells #[.slice none 0 0, iv 0] 113)).alloc (.map #[] 0)).alloc (.cells #[.map (some (w.heap.size + 1 + 1 + 1))] 143)).alloc (.cells #[.func (.func 101) #[] #[.pointer (some ⟨w.heap.size + 1 + 1 + 1 + 1, 0, none⟩), .pointer (some ⟨w.heap.size, 0, none⟩), .pointer (some ⟨w.heap.size + 1, 0, none⟩), .pointer (some ⟨w.heap.size + 1 + 1 + 1 + 1 + 1, 0, none⟩)]] 144)) from ⟨B5, B2, B3, B6, hV⟩)
  have HM := Lib.hid hM2
  have HB4 := Lib.hid B4
  have HB := Lib.hid hB
  have HE := Lib.hid (show EvOK b.ds.length b.ds.length eve0 by
    have := HOK.out.d2
    refine ⟨?_, ?_, this, ?_, ?_, ?_, ?_, ?_⟩ <;> simp [eve0])
  clear B2 B3 B4 B5 B6 hM hM2 hB hV
  refine (ext_any _ _ _ _ _ b A1 A2 A3 c1 c2 c3 ls most HOK.out b.ds.length eve0 [] _ HF.out HM.out (fun y hy => by cases hy) HE.out).mono ?_
  rintro e W7 ⟨v, m', rfl, ho, hg, _, _, _⟩
  have B4 := HB4.out.grown hg (by simp)
  have hB7 := HB.out.grown hg HB.out.size (fun k hk => by have := Option.some.inj hk; omega)
  have HO := Lib.hid ho
  obtain ⟨Av, pv, rfl⟩ := own_form' HO.out
  have c4 := fun i => B4.cell i
  have f4 := fun i => B4.free i
  have l4 := B4.lt
  have HB7 := Lib.hid hB7
  have HB47 := Lib.hid B4
  clear ho hg hB7 HF HM HB4 HB HE B4
  have hPe : planI b ls most b.ds.length eve0 = bestI b ls most := rfl
  rw [hPe] at HO ⊢
  obtain ⟨P, hP⟩ : ∃ P, bestI b ls most = P := ⟨_, rfl⟩
  have HP := Lib.hid hP
  rw [hP] at HO ⊢
  clear hPe hP
  go_wp2_with fail
  have N := Box.put2 (u0 := .slice Av P.1.length pv) (u1 := iv P.2) HB47.out
  have cN := fun i => N.cell i
  refine bodyPost_ret (v := .agg #[.slice Av P.1.length pv, iv P.2]) (by simp [results, Try.results72, go_sem, cN]) rfl ?_
  rw [HP.out]
  exact ⟨_, rfl, (HO.out.put HB47.out (by decide)).put (HB47.out.put 0 _) (by decide), up_put (up_put HB7.out (by simp; omega) _) (by simp; omega) _⟩

/-- The best plan, its changes, or the error. -/
def planE (b : Bk) (ls : List Ls) (most : Int) : List Int × Int × Int :=
  if deskE b ls ≠ 0 then ([], 0, deskE b ls) else if belowB most 9 = false then ([], 0, 2) else if (bestI b ls most).2 = 8 then ([], 0, 10) else ((bestI b ls most).1, (bestI b ls most).2, 0)
theorem deskE_book {b : Bk} {ls : List Ls} (h : deskE b ls = 0) : BookOK b := by
  refine BookOK.of ?_
  unfold deskE at h
  split at h
  · rename_i h1; exact absurd h h1
  · rename_i h1; exact Classical.not_not.1 h1

set_option maxRecDepth 100000 in
set_option maxHeartbeats 1500000 in
theorem Plan_any (v1 v2 v3 : Value) (b : Bk) (ls : List Ls) (most : Int) (w : World) (hL : BookAt w v1 v2 b) (hl : RowsAt w v3 2 Ls.cells ls) :
    Calls Try.prog 35 #[bookV b v1 v2, v3, iv most] w fun e w' => ∃ v, e = .returned (.tuple #[v, iv (planE b ls most).2.1, iv (planE b ls most).2.2]) ∧ IntsAt w' v (planE b ls most).1 ∧ Below w.heap.size w w' := by
  obtain ⟨_, A1, cap1, rfl, _, _⟩ := hL.ks.form
  obtain ⟨_, A2, cap2, rfl, _, _⟩ := hL.ds.form
  obtain ⟨hlen, A3, cap3, rfl, hcap, _⟩ := hl.form
  have HV := Lib.hid hl
  have HL := Lib.hid hL
  clear hL hl
  by_cases c1 : deskE b ls = 0
  case neg =>
    have C1 := Lib.hid c1
    have c1' : (deskE b ls == 0) = false := by rw [beq_eq_false_iff_ne]; exact c1
    have Hfin := Lib.hid (show planE b ls most = ([], 0, deskE b ls) by unfold planE; rw [if_pos c1])
    rw [Hfin.out]
    clear c1
    unfold bookV
    go_enter Try.func35, Try.ntmps35
    go_wp2_with fail
    refine (open_any _ _ _ b ls _ (HL.out.kept (up_alloc up0 _)) (HV.out.kept (up_alloc up0 _))).mono ?_
    rintro e w1 ⟨rfl, hb⟩
    rw [if_neg C1.out]
    unfold desk0
    have hB := up_later (up_alloc (up0 (w := w)) (.cells #[iv b.n, iv b.w, .slice A1 b.ks.length cap1, .slice A2 b.ds.length cap2] 32)) hb
    clear hb
    go_wp2_with fail
    go_ret3
    exact ⟨_, rfl, RowsAt.nil _, up_alloc hB _⟩
  have C1 := Lib.hid c1
  have HOK := Lib.hid (deskE_book c1)
  cases c2 : belowB most 9
  case false =>
    have Hfin := Lib.hid (show planE b ls most = ([], 0, 2) by unfold planE; rw [if_neg (by simpa using c1), if_pos c2])
    have C2 := Lib.hid c2
    rw [Hfin.out]
    clear c1 c2
    unfold bookV
    go_enter Try.func35, Try.ntmps35
    go_wp2_with fail
    refine (open_any _ _ _ b ls _ (HL.out.kept (up_alloc up0 _)) (HV.out.kept (up_alloc up0 _))).mono ?_
    rintro e w1 ⟨rfl, hb⟩
    rw [if_pos C1.out, C1.out]
    unfold deskV
    have hB := up_later (up_alloc (up0 (w := w)) (.cells #[iv b.n, iv b.w, .slice A1 b.ks.length cap1, .slice A2 b.ds.length cap2] 32)) hb
    clear hb
    go_wp2_with fail
    have B9 := Lib.hid (Box.new (w := w1) (t := 98) (cs := #[iv b.n, iv b.w, .slice A1 b.ks.length cap1, .slice A2 b.ds.length cap2, .slice A3 ls.length cap3]) rfl)
    have HB := Lib.hid (up_alloc hB (.cells #[iv b.n, iv b.w, .slice A1 b.ks.length cap1, .slice A2 b.ds.length cap2, .slice A3 ls.length cap3] 98))
    refine (isMost_any most _).mono ?_
    rintro e w2 ⟨rfl, hb⟩
    have HB := Lib.hid (up_later HB.out hb)
    have B9 := Lib.hid (B9.out.kept hb)
    clear hb
    rw [C2.out]
    have BB := B9.out
    have cB := fun i => BB.cell i
    have fB := fun i => BB.free i
    have lB := BB.lt
    have mB := Nat.lt_succ_of_lt lB
    go_wp2_with fail
    clear cB fB lB mB BB
    go_ret3
    exact ⟨_, rfl, RowsAt.nil _, HB.out⟩
  have C2 := Lib.hid c2
  have hin := bestI_in b ls most
  have hd2 := HOK.out.d2
  by_cases c3 : (bestI b ls most).2 = 8
  case pos =>
    have Hfin := Lib.hid (show planE b ls most = ([], 0, 10) by unfold planE; rw [if_neg (by simpa using c1), if_neg (by simp [c2]), if_pos c3])
    have c3' : ((bestI b ls most).2 == 8) = true := by simpa using c3
    rw [Hfin.out]
    clear c1 c2 c3
    unfold bookV
    go_enter Try.func35, Try.ntmps35
    go_wp2_with fail
    refine (open_any _ _ _ b ls _ (HL.out.kept (up_alloc up0 _)) (HV.out.kept (up_alloc up0 _))).mono ?_
    rintro e w1 ⟨rfl, hb⟩
    rw [if_pos C1.out, C1.out]
    unfold deskV
    have hB := up_later (up_alloc (up0 (w := w)) (.cells #[iv b.n, iv b.w, .slice A1 b.ks.length cap1, .slice A2 b.ds.length cap2] 32)) hb
    clear hb
    go_wp2_with fail
    have B9 := Lib.hid (Box.new (w := w1) (t := 98) (cs := #[iv b.n, iv b.w, .slice A1 b.ks.length cap1, .slice A2 b.ds.length cap2, .slice A3 ls.length cap3]) rfl)
    have HB := Lib.hid (up_alloc hB (.cells #[iv b.n, iv b.w, .slice A1 b.ks.length cap1, .slice A2 b.ds.length cap2, .slice A3 ls.length cap3] 98))
    refine (isMost_any most _).mono ?_
    rintro e w2 ⟨rfl, hb⟩
    have HB := Lib.hid (up_later HB.out hb)
    have B9 := Lib.hid (B9.out.kept hb)
    clear hb
    rw [C2.out]
    have BB := B9.out
    have cB := fun i => BB.cell i
    have fB := fun i => BB.free i
    have lB := BB.lt
    have mB := Nat.lt_succ_of_lt lB
    go_wp2_with fail
    clear cB fB lB mB BB
    refine (best_any b _ _ _ _ _ _ ls most _ HOK.out (HV.out.kept HB.out)).mono ?_
    rintro e w3 ⟨v, rfl, ho, hb⟩
    have HO := Lib.hid ho
    have HB := Lib.hid (up_later HB.out hb)
    clear ho hb
    obtain ⟨Av, pv, rfl⟩ := own_form' HO.out
    go_wp2_with fail
    go_ret3
    exact ⟨_, rfl, RowsAt.nil _, up_alloc HB.out _⟩
  have Hfin := Lib.hid (show planE b ls most = ((bestI b ls most).1, (bestI b ls most).2, 0) by unfold planE; rw [if_neg (by simpa using c1), if_neg (by simp [c2]), if_neg c3])
  have c3' : ((bestI b ls most).2 == 8) = false := by rw [beq_eq_false_iff_ne]; exact c3
  rw [Hfin.out]
  clear c1 c2 c3
  obtain ⟨P, hP⟩ : ∃ P, bestI b ls most = P := ⟨_, rfl⟩
  rw [hP] at hin c3' Hfin ⊢
  have HP := Lib.hid hP
  clear hP
  unfold bookV
  go_enter Try.func35, Try.ntmps35
  go_wp2_with fail
  refine (open_any _ _ _ b ls _ (HL.out.kept (up_alloc up0 _)) (HV.out.kept (up_alloc up0 _))).mono ?_
  rintro e w1 ⟨rfl, hb⟩
  rw [if_pos C1.out, C1.out]
  unfold deskV
  have hB := up_later (up_alloc (up0 (w := w)) (.cells #[iv b.n, iv b.w, .slice A1 b.ks.length cap1, .slice A2 b.ds.length cap2] 32)) hb
  clear hb
  go_wp2_with fail
  have B9 := Lib.hid (Box.new (w := w1) (t := 98) (cs := #[iv b.n, iv b.w, .slice A1 b.ks.length cap1, .slice A2 b.ds.length cap2, .slice A3 ls.length cap3]) rfl)
  have HB := Lib.hid (up_alloc hB (.cells #[iv b.n, iv b.w, .slice A1 b.ks.length cap1, .slice A2 b.ds.length cap2, .slice A3 ls.length cap3] 98))
  refine (isMost_any most _).mono ?_
  rintro e w2 ⟨rfl, hb⟩
  have HB := Lib.hid (up_later HB.out hb)
  have B9 := Lib.hid (B9.out.kept hb)
  clear hb
  rw [C2.out]
  have BB := B9.out
  have cB := fun i => BB.cell i
  have fB := fun i => BB.free i
  have lB := BB.lt
  have mB := Nat.lt_succ_of_lt lB
  go_wp2_with fail
  clear cB fB lB mB BB
  refine (best_any b _ _ _ _ _ _ ls most _ HOK.out (HV.out.kept HB.out)).mono ?_
  rintro e w3 ⟨v, rfl, ho, hb⟩
  rw [HP.out] at ho ⊢
  have HO := Lib.hid ho
  have HB := Lib.hid (up_later HB.out hb)
  clear ho hb
  obtain ⟨Av, pv, rfl⟩ := own_form' HO.out
  go_wp2_with fail
  have B10 := Box.new (w := w3) (t := 113) (cs := #[.slice Av P.1.length pv, iv P.2]) rfl
  apply wp_region_by 7 [(Fact.eq _), (Fact.eq _), (Fact.eq _), (Fact.eq _), (Fact.eq _), (Fact.eq _), (Fact.eq _)]
  case hm => kernel_rfl
  case hB => kernel_rfl
  case hA => (intro vs; simp only [List.take_succ_cons, List.take_zero, putAll, if_true, Act.put, List.setIfInBounds_toArray, List.set_cons_zero, List.set_cons_succ]; exact rfl)
  case hstep =>
    intro vs
    refine And.intro (fun w hw hd => ?_) ?_
    · refine ite_yes rfl ?_
      simp only [Gives]
      go_simp
      exact ⟨Below.refl _ _, rfl, fun h => by cases h⟩
    refine And.intro (fun w hw hd => ?_) ?_
    · have d0 := hd 0 (by decide) rfl
      change vs 0 = _ at d0
      refine ite_yes rfl ?_
      have c_B10 := fun i => (B10.kept hw).cell i
      simp only [Gives]
      go_simp
      exact ⟨Below.refl _ _, rfl, fun h => by cases h⟩
    refine And.intro (fun w hw hd => ?_) ?_
    · refine ite_yes rfl ?_
      simp only [Gives]
      go_simp
      exact ⟨Below.refl _ _, rfl, fun h => by cases h⟩
    refine And.intro (fun w hw hd => ?_) ?_
    · have d2 := hd 2 (by decide) rfl
      change vs 2 = _ at d2
      refine ite_yes rfl ?_
      have c_B10 := fun i => (B10.kept hw).cell i
      simp only [Gives]
      go_simp
      exact ⟨Below.refl _ _, rfl, fun h => by cases h⟩
    refine And.intro (fun w hw hd => ?_) ?_
    · have d1 := hd 1 (by decide) rfl
      change vs 1 = _ at d1
      refine ite_yes rfl ?_
      simp only [Gives]
      go_simp
      exact ⟨Below.refl _ _, rfl, fun h => by cases h⟩
    refine And.intro (fun w hw hd => ?_) ?_
    · have d3 := hd 3 (by decide) rfl
      change vs 3 = _ at d3
      refine ite_yes rfl ?_
      simp only [Gives]
      go_simp
      exact ⟨Below.refl _ _, rfl, fun h => by cases h⟩
    refine And.intro (fun w hw hd => ?_) ?_
    · refine ite_yes rfl ?_
      simp only [Gives]
      go_simp
      exact ⟨Below.refl _ _, rfl, fun h => by cases h⟩
    exact trivial
  intro vs wt hw hd hne hlo
  have d0 := hd 0 (by decide)
  change vs 0 = _ at d0
  have d1 := hd 1 (by decide)
  change vs 1 = _ at d1
  have d2 := hd 2 (by decide)
  change vs 2 = _ at d2
  have d3 := hd 3 (by decide)
  change vs 3 = _ at d3
  have d4 := hd 4 (by decide)
  change vs 4 = _ at d4
  have d5 := hd 5 (by decide)
  change vs 5 = _ at d5
  have d6 := hd 6 (by decide)
  change vs 6 = _ at d6
  simp only [d0, d1, d2, d3, d4, d5, d6, List.drop_succ_cons, List.drop_nil]
  have B10 := B10.kept hw
  have c_B10 := fun i => B10.cell i
  have f_B10 := fun i => B10.free i
  clear hd hne hlo d0 d1 d2 d3 d4 d5 d6
  go_wp2_with fail
  go_ret3
  have hB4 := up_later (up_alloc HB.out (.cells #[.slice Av P.1.length pv, iv P.2] 113)) hw
  refine ⟨_, rfl, ?_, hB4⟩
  exact ints_of_own (own_below (own_below HO.out (up_alloc up0 _)) hw) rfl (by omega)

end Go.Proofs.Ytkhfkmfofhnmdaa
