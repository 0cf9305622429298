/-
  WALKS of '(riddle).fits' and Fits. Conditions: lists have at most 1000 elements.
-/
import Derived.Test.YtkhfkmfofhnmdaaDa
namespace Go.Proofs.Ytkhfkmfofhnmdaa
open Go.RowKit Go.Shelf
attribute [local go_sem] Oper.semAt_some

/-- How many keys agree. -/
def fitsI (b : Bk) (codes : List Int) (gs : List Gs) : Nat := (agreeing b.n.toNat (agreeB b.n codes gs) (at3 b.n.toNat (b.n.toNat - 1) 0 0)).length
theorem at3_small {n : Nat} (h : n ≤ 41) : at3 n (n - 1) 0 0 ≤ 100000 := by
  have h1 : n * n ≤ 41 * 41 := Nat.mul_le_mul h h
  have h2 : (n - 1) * (n * n) ≤ 40 * (41 * 41) := Nat.mul_le_mul (by omega) h1
  unfold at3
  omega

set_option maxHeartbeats 400000 in
theorem agreeing_any (n ws : Int) (v1 v2 v3 v4 v5 : Value) (w : World) :
    Calls Try.prog 108 #[.agg #[iv n, iv ws, v1, v2, v3, v4, v5]] w fun e w' => ∃ Br, e = .returned (.func (.func 114) #[] #[.pointer (some ⟨Br, 0, none⟩)]) ∧ Box w' Br 118 #[iv n, iv ws, v1, v2, v3, v4, v5] ∧ Below w.heap.size w w' ∧ w.heap.size ≤ Br := by
  go_enter Try.func108, Try.ntmps108
  go_wp2_with fail
  go_ret
  exact ⟨_, rfl, Box.new rfl, up_alloc up0 _, Nat.le_refl _⟩
theorem callFunc_agreeing (args : Array Value) (w : World) : (callFunc 114 args).run Try.prog w = .ok (.enter 114 args) w := by kernel_rfl

set_option maxRecDepth 100000 in
set_option maxHeartbeats 2000000 in
theorem fits_in (m : Nat) (hm : 6 ≤ m) (n : Nat) (ws : Int) (v1 v2 v3 v4 v5 : Value) (codes : List Int) (gs : List Gs) (w : World) (hc : IntsAt w v4 codes) (hg : RowsAt w v5 2 Gs.cells gs)
    (hn : 2 ≤ n) (hn2 : n ≤ 41) (hin : ∀ x ∈ gs, 0 ≤ x.a ∧ x.a < codes.length ∧ 0 ≤ x.p ∧ x.p ≤ 1000) :
    CallsIn Fence.wide m Try.prog 77 #[.agg #[iv n, iv ws, v1, v2, v3, v4, v5]] w fun e w' => e = .returned (.int .i64 (agreeing n (agreeB n codes gs) (at3 n (n - 1) 0 0)).length) ∧ Below w.heap.size w w' := by
  obtain ⟨_, A4, c4, rfl, _, _⟩ := hc.form
  obtain ⟨_, A5, c5, rfl, _, _⟩ := hg.form
  have HC := Lib.hid hc
  have HG := Lib.hid hg
  have HI := Lib.hid hin
  have hN := at3_small hn2
  have h1 : 1 ≤ m := by omega
  clear hc hg hin
  refine callsIn_of_wp_marks Try.func77 rfl trivial ?_ rfl
  simp only [Try.ntmps77, List.size_toArray, List.length_cons, List.length_nil, Nat.reduceAdd, Nat.reduceSub, Array.replicate_succ, Array.replicate_zero, List.push_toArray, List.append_toArray, List.nil_append, List.cons_append]
  gi_wp2_with fail
  refine ⟨trivial, ?_⟩
  refine (callsIn_wide.2 (agreeing_any _ _ _ _ _ _ _ _)).mono ?_
  rintro e w1 ⟨Br, rfl, hR, hb, hBr⟩
  have hB0 : Below w.heap.size w ((w.alloc (.cells #[iv n, iv ws, v1, v2, v3, .slice A4 codes.length c4, .slice A5 gs.length c5] 118)).alloc (.cells #[iv 0] 3)) := up_alloc (up_alloc up0 _) _
  have hB1 := up_later hB0 hb
  have bQ := (Box.new (w := w.alloc (.cells #[iv n, iv ws, v1, v2, v3, .slice A4 codes.length c4, .slice A5 gs.length c5] 118)) (g := w.heap.size + 1) (t := 3) (cs := #[iv 0]) (by simp)).kept hb
  have hq := bQ.lt
  have hrq : Br ≠ w.heap.size + 1 := by simp at hBr; omega
  have hseq := agreeing_top (m - 1) (by omega) Br (w.heap.size + 1) n ws v1 v2 v3 _ _ codes gs w w1 hB1 HC.out HG.out hn hn2 HI.out hR hrq (by omega) hq
  have HS := Lib.hid hseq
  clear hseq hR hrq hBr hb hB0
  gi_wp2_with fail
  refine wpIn_range_top rfl h1 (gf := 114) (lb := #[.pointer (some ⟨Br, 0, none⟩)]) rfl trivial callFunc_agreeing HS.out (Below.refl _ _) (fun _ => rfl) hq
    (fun pre W' => Box W' (w.heap.size + 1) 3 #[iv (pre.length : Nat)] ∧ Below w.heap.size w W') ?hI ⟨bQ, hB1⟩
    (fun x a' _ => a' = { tmps := #[.agg #[iv n, iv ws, v1, v2, v3, .slice A4 codes.length c4, .slice A5 gs.length c5], .pointer (some ⟨w.heap.size, 0, none⟩), .int .i64 0, .pointer (some ⟨w.heap.size + 1, 0, none⟩), .agg #[iv n, iv ws, v1, v2, v3, .slice A4 codes.length c4, .slice A5 gs.length c5], .func (.func 114) #[] #[.pointer (some ⟨Br, 0, none⟩)], cogV n (undoI x.m n) x, undef, undef, undef], defers := [] }) (fun _ _ _ _ _ h _ _ => h) ?hassign ?hbody ?hdone
  case hI =>
    rintro s X Y row ⟨h1, h2⟩ hg hr
    exact ⟨h1.grown hg (fun e => by have := hr _ e.symm; omega), h2.grown hg h2.size (fun k hk => by have := hr k hk; omega)⟩
  case hassign =>
    rintro l pre x W K hi hK
    gi_wp2
    exact hK _ _ (grown_re _ _) (by simp)
  case hbody =>
    rintro l pre x a' W hl ⟨b1, b2⟩ rfl hlen
    have c1 := fun i => b1.cell i
    have f1 := fun i => b1.free i
    have l1 := b1.lt
    have hp1 : (pre.length : Int) < 100000 := by omega
    have hp0 : (0 : Int) ≤ (pre.length : Int) := by omega
    gi_wp2
    refine ⟨⟨?_, up_put b2 (by simp) _⟩, grownBy_set _ _ _ _⟩
    exact Box.put1 (u0 := iv ((pre.length : Int) + 1)) b1
  case hdone =>
    rintro D xs W hD rfl ⟨b1, b2⟩ hd
    have c1 := fun i => b1.cell i
    gi_wp2
    refine ⟨by simp, .inl ⟨_, _, rfl, run_takeDeferred hd, ?_⟩⟩
    have hs1 := hB1.size
    exact ⟨_, results_tmp rfl _ _ _, rfl, b2.trans (belowK_b (w := w) (Nat.le_refl _) W D _ _ (by omega) hd rfl rfl)⟩

theorem askE_zero {b : Bk} {codes : List Int} {gs : List Gs} (h : askE b codes gs = 0) : BookOK b ∧ codes.length ≤ 10 ∧ gs.length ≤ 6 ∧ (∀ x ∈ codes, 0 ≤ x ∧ x < b.n) ∧ ∀ x ∈ gs, 0 ≤ x.a ∧ x.a < codes.length ∧ 0 ≤ x.p ∧ x.p < b.n := by
  unfold askE at h
  split at h
  · rename_i h1; exact absurd h h1
  · rename_i h1
    split at h
    · cases h
    · rename_i h2
      split at h
      · cases h
      · rename_i h3
        have h3a : codes.all (fun x => belowB x b.n) = true := by
          cases hq : codes.all (fun x => belowB x b.n) with
          | true => rfl
          | false => exact absurd (.inl hq) h3
        have h3b : gs.all (guessB b codes) = true := by
          cases hq : gs.all (guessB b codes) with
          | true => rfl
          | false => exact absurd (.inr hq) h3
        refine ⟨BookOK.of (Classical.not_not.1 h1), by omega, by omega, fun x hx => belowB_iff.1 (List.all_eq_true.1 h3a x hx), fun x hx => ?_⟩
        have := List.all_eq_true.1 h3b x hx
        simp only [guessB, Bool.and_eq_true, belowB_iff] at this
        omega
/-- How many keys agree, or the error. -/
def fitsE (b : Bk) (codes : List Int) (gs : List Gs) : Int × Int := if askE b codes gs ≠ 0 then (0, askE b codes gs) else if fitsI b codes gs = 0 then (0, 11) else (((fitsI b codes gs : Nat) : Int), 0)
theorem fits_any (n : Nat) (ws : Int) (v1 v2 v3 v4 v5 : Value) (codes : List Int) (gs : List Gs) (w : World) (hc : IntsAt w v4 codes) (hg : RowsAt w v5 2 Gs.cells gs)
    (hn : 2 ≤ n) (hn2 : n ≤ 41) (hin : ∀ x ∈ gs, 0 ≤ x.a ∧ x.a < codes.length ∧ 0 ≤ x.p ∧ x.p ≤ 1000) :
    Calls Try.prog 77 #[.agg #[iv n, iv ws, v1, v2, v3, v4, v5]] w fun e w' => e = .returned (.int .i64 (agreeing n (agreeB n codes gs) (at3 n (n - 1) 0 0)).length) ∧ Below w.heap.size w w' :=
  callsIn_wide.1 (fits_in 9 (by omega) n ws v1 v2 v3 v4 v5 codes gs w hc hg hn hn2 hin)

theorem fits_book (b : Bk) (v1 v2 v3 v4 v5 : Value) (codes : List Int) (gs : List Gs) (w : World) (hok : BookOK b) (hc : IntsAt w v4 codes) (hg : RowsAt w v5 2 Gs.cells gs) (hin : ∀ x ∈ gs, 0 ≤ x.a ∧ x.a < codes.length ∧ 0 ≤ x.p ∧ x.p ≤ 1000) :
    Calls Try.prog 77 #[.agg #[iv b.n, iv b.w, v1, v2, v3, v4, v5]] w fun e w' => e = .returned (.int .i64 (fitsI b codes gs : Nat)) ∧ Below w.heap.size w w' := by
  have hn1 := hok.n1
  have hn2 := hok.n2
  obtain ⟨n, hn⟩ : ∃ n : Nat, b.n = n := ⟨b.n.toNat, by omega⟩
  have h := fits_any n b.w v1 v2 v3 v4 v5 codes gs w hc hg (by omega) (by omega) hin
  have e : (agreeing n (agreeB n codes gs) (at3 n (n - 1) 0 0)).length = fitsI b codes gs := by unfold fitsI; rw [hn, Int.toNat_natCast]
  rw [e, ← hn] at h
  exact h

set_option maxRecDepth 100000 in
set_option maxHeartbeats 1500000 in
theorem Fits_any (v1 v2 v4 v5 : Value) (b : Bk) (codes : List Int) (gs : List Gs) (w : World) (hL : BookAt w v1 v2 b) (hc : IntsAt w v4 codes) (hg : RowsAt w v5 2 Gs.cells gs) :
    Calls Try.prog 40 #[bookV b v1 v2, v4, v5] w fun e w' => e = .returned (.tuple #[iv (fitsE b codes gs).1, iv (fitsE b codes gs).2]) ∧ Below w.heap.size w w' := by
  obtain ⟨_, A1, cap1, rfl, _, _⟩ := hL.ks.form
  obtain ⟨_, A2, cap2, rfl, _, _⟩ := hL.ds.form
  obtain ⟨_, A4, cap4, rfl, _, _⟩ := hc.form
  obtain ⟨_, A5, cap5, rfl, _, _⟩ := hg.form
  have HL := Lib.hid hL
  have HC := Lib.hid hc
  have HG := Lib.hid hg
  clear hL hc hg
  by_cases c1 : askE b codes gs = 0
  case neg =>
    have C1 := Lib.hid c1
    have c1' : (askE b codes gs == 0) = false := by rw [beq_eq_false_iff_ne]; exact c1
    have Hfin := Lib.hid (show fitsE b codes gs = (0, askE b codes gs) by unfold fitsE; rw [if_pos c1])
    rw [Hfin.out]
    clear c1
    unfold bookV
    go_enter Try.func40, Try.ntmps40
    go_wp2_with fail
    refine (read_any _ _ _ _ b codes gs _ (HL.out.kept (up_alloc up0 _)) (HC.out.kept (up_alloc up0 _)) (HG.out.kept (up_alloc up0 _))).mono ?_
    rintro e w1 ⟨rfl, hb⟩
    rw [if_neg C1.out]
    unfold riddle0
    have hB := up_later (up_alloc (up0 (w := w)) (.cells #[iv b.n, iv b.w, .slice A1 b.ks.length cap1, .slice A2 b.ds.length cap2] 32)) hb
    clear hb
    go_wp2_with fail
    go_ret2
    exact ⟨rfl, up_alloc hB _⟩
  have C1 := Lib.hid c1
  obtain ⟨hok, hcl, hgl, hci, hgi⟩ := askE_zero c1
  have hn1 := hok.n1
  have hn2 := hok.n2
  have HI := Lib.hid (show ∀ x ∈ gs, 0 ≤ x.a ∧ x.a < codes.length ∧ 0 ≤ x.p ∧ x.p ≤ 1000 from fun x hx => by have := hgi x hx; omega)
  have HOK := Lib.hid hok
  have hN : fitsI b codes gs ≤ 100000 := Nat.le_trans (agreeing_len _ _ _) (at3_small (by omega))
  by_cases c2 : fitsI b codes gs = 0
  · have Hfin := Lib.hid (show fitsE b codes gs = (0, 11) by unfold fitsE; rw [if_neg (by simpa using c1), if_pos c2])
    have c2' : ((fitsI b codes gs : Nat) : Int) = 0 := by omega
    have C2 := Lib.hid c2'
    rw [Hfin.out]
    clear c1 c2 hok hci hgi c2'
    unfold bookV
    go_enter Try.func40, Try.ntmps40
    go_wp2_with fail
    refine (read_any _ _ _ _ b codes gs _ (HL.out.kept (up_alloc up0 _)) (HC.out.kept (up_alloc up0 _)) (HG.out.kept (up_alloc up0 _))).mono ?_
    rintro e w1 ⟨rfl, hb⟩
    rw [if_pos C1.out, C1.out]
    unfold riddleV
    have hB := up_later (up_alloc (up0 (w := w)) (.cells #[iv b.n, iv b.w, .slice A1 b.ks.length cap1, .slice A2 b.ds.length cap2] 32)) hb
    clear hb
    go_wp2_with fail
    have hB1 := up_alloc hB (.cells #[iv b.n, iv b.w, .slice A1 b.ks.length cap1, .slice A2 b.ds.length cap2, .slice none 0 0, .slice A4 codes.length cap4, .slice A5 gs.length cap5] 118)
    refine (fits_book b _ _ _ _ _ codes gs _ HOK.out (HC.out.kept hB1) (HG.out.kept hB1) HI.out).mono ?_
    rintro e w2 ⟨rfl, hb⟩
    rw [C2.out]
    go_wp2_with fail
    go_ret2
    exact ⟨rfl, up_later hB1 hb⟩
  · have Hfin := Lib.hid (show fitsE b codes gs = (((fitsI b codes gs : Nat) : Int), 0) by unfold fitsE; rw [if_neg (by simpa using c1), if_neg c2])
    have c2' : (((fitsI b codes gs : Nat) : Int) == 0) = false := by rw [beq_eq_false_iff_ne]; omega
    rw [Hfin.out]
    clear c1 hok hci hgi
    obtain ⟨N, hNN⟩ : ∃ N, fitsI b codes gs = N := ⟨_, rfl⟩
    have HNN := Lib.hid hNN
    rw [hNN] at c2' c2 ⊢
    clear hNN
    unfold bookV
    go_enter Try.func40, Try.ntmps40
    go_wp2_with fail
    refine (read_any _ _ _ _ b codes gs _ (HL.out.kept (up_alloc up0 _)) (HC.out.kept (up_alloc up0 _)) (HG.out.kept (up_alloc up0 _))).mono ?_
    rintro e w1 ⟨rfl, hb⟩
    rw [if_pos C1.out, C1.out]
    unfold riddleV
    have hB := up_later (up_alloc (up0 (w := w)) (.cells #[iv b.n, iv b.w, .slice A1 b.ks.length cap1, .slice A2 b.ds.length cap2] 32)) hb
    clear hb
    go_wp2_with fail
    have hB1 := up_alloc hB (.cells #[iv b.n, iv b.w, .slice A1 b.ks.length cap1, .slice A2 b.ds.length cap2, .slice none 0 0, .slice A4 codes.length cap4, .slice A5 gs.length cap5] 118)
    refine (fits_book b _ _ _ _ _ codes gs _ HOK.out (HC.out.kept hB1) (HG.out.kept hB1) HI.out).mono ?_
    rintro e w2 ⟨rfl, hb⟩
    rw [HNN.out]
    go_wp2_with fail
    go_ret2
    exact ⟨rfl, up_later hB1 hb⟩

end Go.Proofs.Ytkhfkmfofhnmdaa
