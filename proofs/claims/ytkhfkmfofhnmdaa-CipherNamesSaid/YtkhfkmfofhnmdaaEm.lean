/-
  WALKS of '(desk).isRight' and ProvePlan. Conditions: lists have at most 1000 elements; a book has at most 5 keys.
-/
import Derived.Test.YtkhfkmfofhnmdaaEk
namespace Go.Proofs.Ytkhfkmfofhnmdaa
open Go.RowKit Go.Shelf
attribute [local go_sem] Oper.semAt_some

set_option maxRecDepth 100000 in
set_option maxHeartbeats 1000000 in
theorem isRight1_any (n most : Int) (g : Nat) (w : World) (hB : Box w g 3 #[iv most]) :
    Calls Try.prog 105 #[iv n, .pointer (some ⟨g, 0, none⟩)] w fun r w' => r = .returned (.bool (decide (n ≤ most))) ∧ Below w.heap.size w w' := by
  have cB := fun i => hB.cell i
  go_enter Try.func105, Try.ntmps105
  go_wp2_with fail
  go_ret
  exact ⟨rfl, up0⟩
theorem ints_any {w : World} {g t : Nat} {l : List Int} (h : Box w g t (l.map iv).toArray) (hl : l.length ≤ 1000) : IntsAt w (.slice (some ⟨g, 0, none⟩) l.length l.length) l :=
  ⟨hl, _, _, rfl, Nat.le_refl _, by omega, fun _ => ⟨g, 0, rfl, h.lt, fun i x hx j u hu => by
    have hj : j = 0 := by
      rcases j with _ | j
      · rfl
      · simp [ic] at hu
    subst hj
    have hux : u = iv x := by simpa [ic] using hu.symm
    subst hux
    rw [show 0 + i * 1 + 0 = i by omega, h.cell i]
    simp [hx]⟩⟩
def cntL (t : List Int) : List Int := [cnt t 0, cnt t 1, cnt t 2, cnt t 3, cnt t 4]
theorem cntL_all (t : List Int) (most : Int) : (cntL t).all (fun n => decide (n ≤ most)) = usedB most t := by
  simp [cntL, usedB]
set_option maxRecDepth 100000 in
set_option maxHeartbeats 2000000 in
theorem isRight_any (v1 v2 v3 v : Value) (b : Bk) (ls : List Ls) (most : Int) (l : List Int) (w : World) (hk5 : b.ks.length ≤ 5) (hL : BookAt w v1 v2 b) (hls : RowsAt w v3 2 Ls.cells ls) (hl : IntsAt w v l) :
    Calls Try.prog 73 #[deskV b v1 v2 v3, v, iv most] w fun r w' => r = .returned (.bool (rightB b ls most l)) ∧ Below w.heap.size w w' := by
  obtain ⟨_, A1, cap1, rfl, _, _⟩ := hL.ks.form
  obtain ⟨hd8, A2, cap2, rfl, _, _⟩ := hL.ds.form
  obtain ⟨_, A3, cap3, rfl, _, _⟩ := hls.form
  obtain ⟨hl8, A4, cap4, rfl, _, _⟩ := hl.form
  have HS := Lib.hid hls
  have HV := Lib.hid hl
  clear hL hls hl
  have hB0 : Below w.heap.size w ((w.alloc (.cells #[iv b.n, iv b.w, .slice A1 b.ks.length cap1, .slice A2 b.ds.length cap2, .slice A3 ls.length cap3] 98)).alloc (.cells #[iv most] 3)) := up_alloc (up_alloc up0 _) _
  have N0 := Lib.hid ((Box.new (w := w) (t := 98) (cs := #[iv b.n, iv b.w, .slice A1 b.ks.length cap1, .slice A2 b.ds.length cap2, .slice A3 ls.length cap3]) rfl).alloc (.cells #[iv most] 3))
  have M0 := Lib.hid (Box.new (w := w.alloc (.cells #[iv b.n, iv b.w, .slice A1 b.ks.length cap1, .slice A2 b.ds.length cap2, .slice A3 ls.length cap3] 98)) (g := w.heap.size + 1) (t := 3) (cs := #[iv most]) (by simp))
  have HB0 := Lib.hid hB0
  clear hB0
  by_cases c1 : l.length = b.ds.length
  case neg =>
    have z1 : ((l.length : Int) == (b.ds.length : Int)) = false := by rw [beq_eq_false_iff_ne]; omega
    have Hr := Lib.hid (show rightB b ls most l = false by unfold rightB; rw [decide_eq_false c1]; rfl)
    rw [Hr.out]
    unfold deskV
    go_enter Try.func73, Try.ntmps73
    go_wp2_with fail
    go_ret
    exact ⟨rfl, HB0.out⟩
  obtain ⟨D, hD⟩ : ∃ D, b.ds.length = D := ⟨_, rfl⟩
  unfold deskV
  have Hlen := Lib.hid hD
  have hc1 := c1
  rw [hD] at N0 M0 HB0 hc1 ⊢
  subst hc1
  clear hD
  cases c2 : l.all (fun k => belowB k b.ks.length) with
  | false =>
    have C2 := Lib.hid c2
    have Hr := Lib.hid (show rightB b ls most l = false by unfold rightB okB; rw [c2]; simp)
    rw [Hr.out]
    clear c1 c2
    go_enter Try.func73, Try.ntmps73
    go_wp2_with fail
    refine (every_day _ l _ (fun k => belowB k b.ks.length) _ (HV.out.kept HB0.out) (fun x _ w1 _ => hasKey_any _ _ _ _ _ _ x w1)).mono ?_
    rintro e w3 ⟨rfl, hb⟩
    rw [C2.out]
    go_wp2_with fail
    go_ret
    exact ⟨rfl, up_later HB0.out hb⟩
  | true =>
    have C2 := Lib.hid c2
    have Hr := Lib.hid (show rightB b ls most l = (freesB l.length ls 0 l && usedB most l) by unfold rightB okB; rw [c2, decide_eq_true c1, Hlen.out]; rfl)
    have Hin := Lib.hid (List.all_eq_true.1 c2)
    rw [Hr.out]
    clear c1 c2
    go_enter Try.func73, Try.ntmps73
    go_wp2_with fail
    refine (every_day _ l _ (fun k => belowB k b.ks.length) _ (HV.out.kept HB0.out) (fun x _ w1 _ => hasKey_any _ _ _ _ _ _ x w1)).mono ?_
    rintro e w3 ⟨rfl, hb⟩
    rw [C2.out]
    have N1 := Lib.hid (N0.out.kept hb)
    have M1 := Lib.hid (M0.out.kept hb)
    have HB := Lib.hid (up_later HB0.out hb)
    have hsz := HB.out.size
    have hsz1 : w.heap.size + 2 ≤ w3.heap.size := by have := hb.size; simpa using this
    clear hb N0 M0 HB0
    go_wp2_with fail
    obtain ⟨g, hg⟩ : ∃ g, w3.heap.size = g := ⟨_, rfl⟩
    have U0 := Lib.hid (Box.new (w := w3) (t := 145) (cs := usedC []) rfl)
    have N1 := Lib.hid (N1.out.alloc (.cells (usedC []) 145))
    have M1 := Lib.hid (M1.out.alloc (.cells (usedC []) 145))
    have HB := Lib.hid (up_alloc HB.out (.cells (usedC []) 145))
    rw [hg] at U0 hsz1 ⊢
    clear hg hsz
    go_loopw [8, 9, 27] (fun dd kk i wr => ∃ k : Nat, k ≤ l.length ∧ i = .int .i64 k ∧ Hid (freesB l.length ls 0 (l.take k) = true) ∧ Hid (Box wr g 145 (usedC (l.take k))) ∧ Hid (Box wr w.heap.size 98 #[iv b.n, iv b.w, .slice A1 b.ks.length cap1, .slice A2 l.length cap2, .slice A3 ls.length cap3]) ∧ Hid (Box wr (w.heap.size + 1) 3 #[iv most]) ∧ Hid (Below w.heap.size w wr)) (fun _ _ i _ => l.length - (intOf i).toNat)
    case atStart => exact ⟨0, by omega, rfl, Lib.hid rfl, U0.out, N1.out, M1.out, HB.out⟩
    case round =>
      clear U0 N1 M1 HB
      obtain ⟨k, hk, rfl, HF, U, N, M, HB⟩ := hrel
      have k0 : (0 : Int) ≤ (k : Int) := by omega
      by_cases hlt : k < l.length
      · obtain ⟨x, hx⟩ : ∃ x, l[k]? = some x := ⟨_, List.getElem?_eq_getElem hlt⟩
        have k1 : (k : Int) < (l.length : Int) := by omega
        have hxi := belowB_iff.1 (Hin.out x (List.mem_of_getElem? hx))
        obtain ⟨q, rfl⟩ : ∃ q : Nat, x = q := ⟨x.toNat, by omega⟩
        have hq5 : q < 5 := by omega
        have HR := Lib.hid (HV.out.kept HB.out)
        obtain ⟨b1, o1, rfl, _, _⟩ := HR.out.at rfl hx
        have q0 : wr.cell? ⟨b1, o1 + k, none⟩ = some (.int .i64 (q : Int)) := by simpa using HR.out.cellAt hx (j := 0) rfl
        have hcq := cnt_in (l.take k) q
        have hlk : (l.take k).length ≤ 1000 := by rw [List.length_take]; omega
        have q1 : wr.cell? ⟨g, q, none⟩ = some (.int .i64 (cnt (l.take k) q)) := by rw [U.out.cell q]; exact usedC_at hq5
        have q2 : wr.frozen? ⟨g, q, none⟩ = false := U.out.free q
        obtain ⟨c, hc⟩ : ∃ c, cnt (l.take k) q = c := ⟨_, rfl⟩
        rw [hc] at hcq q1
        have hW : IntKind.i64.wrap (c + 1) = c + 1 := wrapK_in _ 3000 (by omega) (by omega)
        have j0 : (0 : Int) ≤ (q : Int) := by omega
        have j1 : (q : Int) < 5 := by omega
        have U2 := Lib.hid (show Box (wr.setCell ⟨g, q, none⟩ (iv (c + 1))) g 145 (usedC (l.take (k + 1))) by
          have := U.out.put q (iv (c + 1))
          rw [← hc, usedC_put hq5, ← take_one hx] at this
          rw [← hc]
          exact this)
        have N2 := Lib.hid (N.out.far (p := ⟨g, q, none⟩) (by simp; omega) (iv (c + 1)))
        have M2 := Lib.hid (M.out.far (p := ⟨g, q, none⟩) (by simp; omega) (iv (c + 1)))
        have HB2 := Lib.hid (up_put HB.out (p := ⟨g, q, none⟩) (by simp; omega) (iv (c + 1)))
        have HS2 := Lib.hid (HS.out.kept HB2.out)
        have Hx := Lib.hid hx
        clear hx hc U N M HB
        have cN := fun i => N2.out.cell i
        go_wp2_with fail
        refine (isFree_any _ _ _ _ _ _ _ ls q k _ HS2.out).mono ?_
        rintro e w5 ⟨rfl, hb⟩
        have HBn := Lib.hid (up_later HB2.out hb)
        have U3 := Lib.hid (U2.out.kept hb)
        have N3 := Lib.hid (N2.out.kept hb)
        have M3 := Lib.hid (M2.out.kept hb)
        clear cN hb q0 q1 q2
        cases hf : freeB l.length ls (q : Int) (k : Int) with
        | true =>
          have hf' : decide ((k : Int) < takenI l.length ls q) = true := hf
          have HFn := Lib.hid (show freesB l.length ls 0 (l.take (k + 1)) = true by
            rw [take_one Hx.out, freesB_append, HF.out, List.length_take, show 0 + min k l.length = k by omega]
            simp [freesB, hf])
          rw [hf']
          clear hf hf'
          go_wp2_with fail
          go_roundw
          case rel => exact ⟨k + 1, by omega, by go_num, HFn.out, U3.out, N3.out, M3.out, HBn.out⟩
          case measure => simp [intOf]; omega
        | false =>
          have hf' : decide ((k : Int) < takenI l.length ls q) = false := hf
          have HFn := Lib.hid (show (freesB l.length ls 0 l && usedB most l) = false by rw [freesB_part Hx.out hf]; rfl)
          rw [hf']
          clear hf hf'
          go_wp2_with fail
          go_ret
          exact ⟨by rw [HFn.out]; rfl, HBn.out⟩
      · have hk' : k = l.length := by omega
        have hft := HF.out
        have hu := U.out
        rw [hk', List.take_length] at hft hu
        have Hfin := Lib.hid (show (freesB l.length ls 0 l && usedB most l) = (cntL l).all (fun n => decide (n ≤ most)) by rw [hft, cntL_all]; rfl)
        have HI := Lib.hid (ints_any (l := cntL l) hu (by simp [cntL]))
        have M3 := Lib.hid M.out
        clear hft hu hk' M N U
        go_wp2_with fail
        refine (every_used _ (cntL l) _ (fun n => decide (n ≤ most)) _ HI.out (fun x _ w1 hb => isRight1_any x most _ w1 (M3.out.kept hb))).mono ?_
        rintro e w5 ⟨rfl, hb⟩
        go_wp2_with fail
        go_ret
        exact ⟨by rw [Hfin.out]; rfl, up_later HB.out hb⟩

/-- Whether a plan is right, and has few enough changes. -/
def proveB (b : Bk) (ls : List Ls) (most : Int) (l : List Int) (ch : Int) : Bool := decide (deskE b ls = 0) && (belowB most 9 && (rightB b ls most l && decide (chL (-1) l ≤ ch)))
set_option maxRecDepth 100000 in
set_option maxHeartbeats 2000000 in
theorem ProvePlan_any (v1 v2 v3 v : Value) (b : Bk) (ls : List Ls) (most : Int) (l : List Int) (ch : Int) (w : World) (hL : BookAt w v1 v2 b) (hls : RowsAt w v3 2 Ls.cells ls) (hl : IntsAt w v l) :
    Calls Try.prog 36 #[bookV b v1 v2, v3, iv most, v, iv ch] w fun r w' => r = .returned (.bool (proveB b ls most l ch)) ∧ Below w.heap.size w w' := by
  obtain ⟨_, A1, cap1, rfl, _, _⟩ := hL.ks.form
  obtain ⟨_, A2, cap2, rfl, _, _⟩ := hL.ds.form
  obtain ⟨_, A3, cap3, rfl, _, _⟩ := hls.form
  obtain ⟨_, A4, cap4, rfl, _, _⟩ := hl.form
  have HL := Lib.hid hL
  have HS := Lib.hid hls
  have HV := Lib.hid hl
  clear hL hls hl
  by_cases c1 : deskE b ls = 0
  case neg =>
    have C1 := Lib.hid c1
    have c1' : (deskE b ls == 0) = false := by rw [beq_eq_false_iff_ne]; exact c1
    have Hr := Lib.hid (show proveB b ls most l ch = false by unfold proveB; rw [decide_eq_false c1]; rfl)
    rw [Hr.out]
    clear c1
    unfold bookV
    go_enter Try.func36, Try.ntmps36
    go_wp2_with fail
    refine (open_any _ _ _ b ls _ (HL.out.kept (up_alloc up0 _)) (HS.out.kept (up_alloc up0 _))).mono ?_
    rintro e w1 ⟨rfl, hb⟩
    rw [if_neg C1.out]
    unfold desk0
    have HB := Lib.hid (up_later (up_alloc (up0 (w := w)) (.cells #[iv b.n, iv b.w, .slice A1 b.ks.length cap1, .slice A2 b.ds.length cap2] 32)) hb)
    clear hb
    go_wp2_with fail
    go_ret
    exact ⟨rfl, up_alloc HB.out _⟩
  have C1 := Lib.hid c1
  have hok := deskE_book c1
  have hk5 := hok.k2
  cases c2 : belowB most 9 with
  | false =>
    have C2 := Lib.hid c2
    have Hr := Lib.hid (show proveB b ls most l ch = false by unfold proveB; rw [c2]; simp)
    rw [Hr.out]
    clear c1 c2 hok
    unfold bookV
    go_enter Try.func36, Try.ntmps36
    go_wp2_with fail
    refine (open_any _ _ _ b ls _ (HL.out.kept (up_alloc up0 _)) (HS.out.kept (up_alloc up0 _))).mono ?_
    rintro e w1 ⟨rfl, hb⟩
    rw [if_pos C1.out, C1.out]
    unfold deskV
    have HB := Lib.hid (up_later (up_alloc (up0 (w := w)) (.cells #[iv b.n, iv b.w, .slice A1 b.ks.length cap1, .slice A2 b.ds.length cap2] 32)) hb)
    clear hb
    go_wp2_with fail
    have B9 := Lib.hid (Box.new (w := w1) (t := 98) (cs := #[iv b.n, iv b.w, .slice A1 b.ks.length cap1, .slice A2 b.ds.length cap2, .slice A3 ls.length cap3]) rfl)
    have HB := Lib.hid (up_alloc HB.out (.cells #[iv b.n, iv b.w, .slice A1 b.ks.length cap1, .slice A2 b.ds.length cap2, .slice A3 ls.length cap3] 98))
    refine (isMost_any most _).mono ?_
    rintro e w2 ⟨rfl, hb⟩
    rw [C2.out]
    have HB := Lib.hid (up_later HB.out hb)
    have B9 := Lib.hid (B9.out.kept hb)
    clear hb
    have BB := B9.out
    have cB := fun i => BB.cell i
    have fB := fun i => BB.free i
    have lB := BB.lt
    have mB := Nat.lt_succ_of_lt lB
    go_wp2_with fail
    clear cB fB lB mB BB
    go_ret
    exact ⟨rfl, HB.out⟩
  | true =>
  have C2 := Lib.hid c2
  cases c3 : rightB b ls most l with
  | false =>
    have C3 := Lib.hid c3
    have Hr := Lib.hid (show proveB b ls most l ch = false by unfold proveB; rw [c3]; simp)
    rw [Hr.out]
    clear c1 c2 c3 hok
    unfold bookV
    go_enter Try.func36, Try.ntmps36
    go_wp2_with fail
    refine (open_any _ _ _ b ls _ (HL.out.kept (up_alloc up0 _)) (HS.out.kept (up_alloc up0 _))).mono ?_
    rintro e w1 ⟨rfl, hb⟩
    rw [if_pos C1.out, C1.out]
    unfold deskV
    have HB := Lib.hid (up_later (up_alloc (up0 (w := w)) (.cells #[iv b.n, iv b.w, .slice A1 b.ks.length cap1, .slice A2 b.ds.length cap2] 32)) hb)
    clear hb
    go_wp2_with fail
    have B9 := Lib.hid (Box.new (w := w1) (t := 98) (cs := #[iv b.n, iv b.w, .slice A1 b.ks.length cap1, .slice A2 b.ds.length cap2, .slice A3 ls.length cap3]) rfl)
    have HB := Lib.hid (up_alloc HB.out (.cells #[iv b.n, iv b.w, .slice A1 b.ks.length cap1, .slice A2 b.ds.length cap2, .slice A3 ls.length cap3] 98))
    refine (isMost_any most _).mono ?_
    rintro e w2 ⟨rfl, hb⟩
    rw [C2.out]
    have HB := Lib.hid (up_later HB.out hb)
    have B9 := Lib.hid (B9.out.kept hb)
    clear hb
    have BB := B9.out
    have cB := fun i => BB.cell i
    have fB := fun i => BB.free i
    have lB := BB.lt
    have mB := Nat.lt_succ_of_lt lB
    go_wp2_with fail
    clear cB fB lB mB BB
    refine (isRight_any _ _ _ _ b ls most l _ hk5 (HL.out.kept HB.out) (HS.out.kept HB.out) (HV.out.kept HB.out)).mono ?_
    rintro e w3 ⟨rfl, hb⟩
    rw [C3.out]
    have HB := Lib.hid (up_later HB.out hb)
    have B9 := Lib.hid (B9.out.kept hb)
    clear hb
    have BB := B9.out
    have cB := fun i => BB.cell i
    have fB := fun i => BB.free i
    have lB := BB.lt
    have mB := Nat.lt_succ_of_lt lB
    go_wp2_with fail
    clear cB fB lB mB BB
    go_ret
    exact ⟨rfl, HB.out⟩
  | true =>
    have C3 := Lib.hid c3
    have Hr := Lib.hid (show proveB b ls most l ch = decide (chL (-1) l ≤ ch) by unfold proveB; rw [c3, c2, decide_eq_true c1]; simp)
    have c3' := c3
    simp only [rightB, okB, Bool.and_eq_true, decide_eq_true_eq] at c3'
    have hbl := List.all_eq_true.1 c3'.2.1
    obtain ⟨p, hp⟩ : ∃ p : List Nat, l = p.map fun k : Nat => (k : Int) := ⟨l.map Int.toNat, by
      rw [List.map_map]
      symm
      conv => rhs; rw [← List.map_id l]
      apply List.map_congr_left
      intro x hx
      have := belowB_iff.1 (hbl x hx)
      show ((x.toNat : Nat) : Int) = x
      omega⟩
    have HP5 := Lib.hid (show ∀ k ∈ p, k < 5 from fun k hk => by
      have := belowB_iff.1 (hbl (k : Int) (by rw [hp]; exact List.mem_map.2 ⟨k, hk, rfl⟩))
      omega)
    have HP8 := Lib.hid (show p.length ≤ 8 by
      have := congrArg List.length hp
      rw [List.length_map] at this
      have := hok.d2
      omega)
    have Hp := Lib.hid hp
    have Hcost := Lib.hid (show costP eve0 p = chL (-1) l by rw [cost_ch, ← hp]; rfl)
    rw [Hr.out]
    clear c1 c2 c3 hok c3' hbl hp
    unfold bookV
    go_enter Try.func36, Try.ntmps36
    go_wp2_with fail
    refine (open_any _ _ _ b ls _ (HL.out.kept (up_alloc up0 _)) (HS.out.kept (up_alloc up0 _))).mono ?_
    rintro e w1 ⟨rfl, hb⟩
    rw [if_pos C1.out, C1.out]
    unfold deskV
    have HB := Lib.hid (up_later (up_alloc (up0 (w := w)) (.cells #[iv b.n, iv b.w, .slice A1 b.ks.length cap1, .slice A2 b.ds.length cap2] 32)) hb)
    clear hb
    go_wp2_with fail
    have B9 := Lib.hid (Box.new (w := w1) (t := 98) (cs := #[iv b.n, iv b.w, .slice A1 b.ks.length cap1, .slice A2 b.ds.length cap2, .slice A3 ls.length cap3]) rfl)
    have HB := Lib.hid (up_alloc HB.out (.cells #[iv b.n, iv b.w, .slice A1 b.ks.length cap1, .slice A2 b.ds.length cap2, .slice A3 ls.length cap3] 98))
    refine (isMost_any most _).mono ?_
    rintro e w2 ⟨rfl, hb⟩
    rw [C2.out]
    have HB := Lib.hid (up_later HB.out hb)
    have B9 := Lib.hid (B9.out.kept hb)
    clear hb
    have BB := B9.out
    have cB := fun i => BB.cell i
    have fB := fun i => BB.free i
    have lB := BB.lt
    have mB := Nat.lt_succ_of_lt lB
    go_wp2_with fail
    clear cB fB lB mB BB
    refine (isRight_any _ _ _ _ b ls most l _ hk5 (HL.out.kept HB.out) (HS.out.kept HB.out) (HV.out.kept HB.out)).mono ?_
    rintro e w3 ⟨rfl, hb⟩
    rw [C3.out]
    have HB := Lib.hid (up_later HB.out hb)
    have B9 := Lib.hid (B9.out.kept hb)
    clear hb
    have BB := B9.out
    have cB := fun i => BB.cell i
    have fB := fun i => BB.free i
    have lB := BB.lt
    have mB := Nat.lt_succ_of_lt lB
    go_wp2_with fail
    clear cB fB lB mB BB
    refine (changesOf_any _ p _ (by rw [← Hp.out]; exact HV.out.kept HB.out) HP5.out HP8.out).mono ?_
    rintro e w4 ⟨rfl, hb⟩
    rw [Hcost.out]
    have HB := Lib.hid (up_later HB.out hb)
    clear hb
    go_wp2_with fail
    go_ret
    exact ⟨rfl, HB.out⟩
end Go.Proofs.Ytkhfkmfofhnmdaa
