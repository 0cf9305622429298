/-
  WALKS of '(desk).changed' (in both ways), '(desk).coded', '(desk).decoded'. Conditions: the book is valid, the lists are short.
-/
import Derived.Test.YtkhfkmfofhnmdaaCh
namespace Go.Proofs.Ytkhfkmfofhnmdaa
open Go.RowKit

/-- What each number becomes, by its index. -/
def mapI (f : Int → Int → Int) : Nat → List Int → List Int
  | _, [] => []
  | i, p :: l => f p i :: mapI f (i + 1) l
theorem codesI_eq (n : Int) (k : Ky) : ∀ (i : Nat) (l : List Int), codesI n k i l = mapI (codeI n k) i l
  | _, [] => rfl
  | i, p :: l => by rw [codesI, mapI, codesI_eq n k (i + 1) l]
theorem plainsI_eq (n : Int) (k : Ky) : ∀ (i : Nat) (l : List Int), plainsI n k i l = mapI (plainI n k) i l
  | _, [] => rfl
  | i, p :: l => by rw [plainsI, mapI, plainsI_eq n k (i + 1) l]
theorem mapI_len (f : Int → Int → Int) : ∀ (i : Nat) (l : List Int), (mapI f i l).length = l.length
  | _, [] => rfl
  | i, p :: l => by rw [mapI, List.length_cons, List.length_cons, mapI_len f (i + 1) l]
theorem mapI_at (f : Int → Int → Int) : ∀ (i : Nat) (l : List Int) (k : Nat) (x : Int), l[k]? = some x → (mapI f i l)[k]? = some (f x (i + k : Nat))
  | _, [], _, _, h => by simp at h
  | i, a :: l, 0, x, h => by
    have : a = x := by simpa using h
    subst this
    simp [mapI]
  | i, a :: l, k + 1, x, h => by
    rw [mapI, List.getElem?_cons_succ, mapI_at f (i + 1) l k x (by simpa using h), show i + 1 + k = i + (k + 1) by omega]
/-- The first k are there, the others are 0 yet. -/
def upto (l : List Int) (k : Nat) : List Int := l.take k ++ List.replicate (l.length - k) 0
theorem upto_zero (l : List Int) : upto l 0 = List.replicate l.length 0 := by simp [upto]
theorem upto_all (l : List Int) : upto l l.length = l := by simp [upto]
theorem upto_set {l : List Int} {k : Nat} {x : Int} (h : l[k]? = some x) : (upto l k).set k x = upto l (k + 1) := by
  have hk := (List.getElem?_eq_some_iff.1 h).1
  unfold upto
  rw [List.set_append_right _ _ (by simp; omega), List.take_add_one, h]
  have e : l.length - k = (l.length - (k + 1)) + 1 := by omega
  have e2 : k - (l.take k).length = 0 := by simp; omega
  rw [e, e2, List.replicate_succ, List.set_cons_zero]
  simp
theorem upto_len {l : List Int} {k : Nat} (h : k ≤ l.length) : (upto l k).length = l.length := by simp [upto]; omega

theorem BookOK.keyAt {b : Bk} (h : BookOK b) {day : Nat} (hd : day < b.ds.length) : ∃ d : Nat, b.ds[day]? = some (d : Int) ∧ b.ks[d]? = some (keyOf b day) := by
  obtain ⟨x, hx⟩ : ∃ x, b.ds[day]? = some x := ⟨_, List.getElem?_eq_getElem hd⟩
  have hi := h.ds x (List.mem_of_getElem? hx)
  refine ⟨x.toNat, by rw [hx, Int.toNat_of_nonneg hi.1], ?_⟩
  obtain ⟨y, hy⟩ : ∃ y, b.ks[x.toNat]? = some y := ⟨_, List.getElem?_eq_getElem (by omega)⟩
  have e : keyOf b day = y := by
    unfold keyOf
    simp only [List.getD_eq_getElem?_getD, hx, Option.getD_some, hy]
  rw [hy, e]
theorem BookOK.key {b : Bk} (h : BookOK b) {day : Nat} (hd : day < b.ds.length) : 0 < (keyOf b day).m ∧ (keyOf b day).m < b.n ∧ 0 ≤ (keyOf b day).a ∧ (keyOf b day).a < b.n ∧ 0 ≤ (keyOf b day).s ∧ (keyOf b day).s < b.n := by
  obtain ⟨d, _, h2⟩ := h.keyAt hd
  exact h.ks _ (List.mem_of_getElem? h2)

theorem below_of_grown {w w' : World} (h : w.grownBy w' none) : Below w.heap.size w w' := ⟨h.os, h.tape, h.output, h.size, fun i hi => h.block i hi (by simp)⟩

set_option maxRecDepth 100000 in
set_option maxHeartbeats 4000000 in
theorem changed_code (v1 v2 v3 v4 : Value) (b : Bk) (day : Nat) (l : List Int) (w : World) (hok : BookOK b) (hL : BookAt w v1 v2 b) (hd : day < b.ds.length) (hl : IntsAt w v4 l) (hin : ∀ x ∈ l, 0 ≤ x ∧ x ≤ 1000) :
    Calls Try.prog 95 #[deskV b v1 v2 v3, .agg #[.func (.func 110) #[] #[]], iv day, v4] w fun e w' =>
      ∃ v, e = .returned v ∧ w'.ownsRow w.heap.size 3 1 v l.length ((mapI (codeI b.n (keyOf b day)) 0 l).map iv) ∧ Below w.heap.size w w' := by
  obtain ⟨i0, hi0, hz0, hz1, hz2⟩ := info_parts int_info
  obtain ⟨_, A1, cap1, rfl, _, _⟩ := hL.ks.form
  obtain ⟨_, A2, cap2, rfl, _, _⟩ := hL.ds.form
  obtain ⟨hlen, A4, cap4, rfl, _, _⟩ := hl.form
  obtain ⟨d, hx, hy⟩ := hok.keyAt hd
  obtain ⟨bk, ok, rfl, _, _⟩ := hL.ks.at rfl hy
  obtain ⟨bd, od, rfl, _, _⟩ := hL.ds.at rfl hx
  obtain ⟨m1, m2, a1, a2, s1, s2⟩ := hok.key hd
  have hn1 := hok.n1
  have hn2 := hok.n2
  have hdk : d < b.ks.length := (List.getElem?_eq_some_iff.1 hy).1
  have HK := Lib.hid hL.ks
  have HD := Lib.hid hL.ds
  have HV := Lib.hid hl
  have HX := Lib.hid hx
  have HY := Lib.hid hy
  have HI := Lib.hid hin
  obtain ⟨K, hK⟩ : ∃ K, keyOf b day = K := ⟨_, rfl⟩
  rw [hK] at HY m1 m2 a1 a2 s1 s2 ⊢
  have j0 : (0 : Int) ≤ (day : Int) := by omega
  have j1 : (day : Int) < (b.ds.length : Int) := by omega
  have k0 : (0 : Int) ≤ (d : Int) := by omega
  have k1 : (d : Int) < (b.ks.length : Int) := by omega
  clear hL hx hy hok hl hin hK
  unfold deskV
  go_enter Try.func95, Try.ntmps95
  go_wp2_with fail
  have B4 := (Box.new (w := w) (t := 98) (cs := #[iv b.n, iv b.w, .slice (some ⟨bk, ok, none⟩) b.ks.length cap1, .slice (some ⟨bd, od, none⟩) b.ds.length cap2, v3]) rfl).alloc (.cells #[.func (.func 110) #[] #[]] 141)
  have B5 := Box.new (w := w.alloc (.cells #[iv b.n, iv b.w, .slice (some ⟨bk, ok, none⟩) b.ks.length cap1, .slice (some ⟨bd, od, none⟩) b.ds.length cap2, v3] 98)) (g := w.heap.size + 1) (t := 141) (cs := #[.func (.func 110) #[] #[]]) (by simp)
  have hB0 : Below w.heap.size w ((w.alloc (.cells #[iv b.n, iv b.w, .slice (some ⟨bk, ok, none⟩) b.ks.length cap1, .slice (some ⟨bd, od, none⟩) b.ds.length cap2, v3] 98)).alloc (.cells #[.func (.func 110) #[] #[]] 141)) := up_alloc (up_alloc up0 _) _
  have HK := Lib.hid (HK.out.kept hB0)
  have HD := Lib.hid (HD.out.kept hB0)
  have HB0 := Lib.hid hB0
  clear hB0
  apply wp_region_by 16 [(Fact.eq _), (Fact.eq _), (Fact.eq _), (Fact.eq _), (Fact.eq _), (Fact.eq _), (Fact.eq _), (Fact.eq _), (Fact.eq _), (Fact.eq _), (Fact.eq _), (Fact.eq _), (Fact.eq _), (Fact.eq _), (Fact.eq _), (Fact.box 139 _)]
  case hm => kernel_rfl
  case hB => kernel_rfl
  case hA => (intro vs; simp only [List.take_succ_cons, List.take_zero, putAll, if_true, Act.put, List.setIfInBounds_toArray, List.set_cons_zero, List.set_cons_succ]; exact rfl)
  case hstep =>
    intro vs
    refine And.intro (fun w hw hd => ?_) ?_
    · refine ite_yes rfl ?_
      simp only [Gives]
      go_simp
      exact ⟨Below.refl _ _, rfl, fun h => by cases h⟩
    refine And.intro (fun w hw hd => ?_) ?_
    · have d0 := hd 0 (by decide) rfl
      change vs 0 = _ at d0
      refine ite_yes rfl ?_
      simp only [Gives]
      go_simp
      exact ⟨Below.refl _ _, rfl, fun h => by cases h⟩
    refine And.intro (fun w hw hd => ?_) ?_
    · have d1 := hd 1 (by decide) rfl
      change vs 1 = _ at d1
      refine ite_yes rfl ?_
      have c_B4 := fun i => (B4.kept hw).cell i
      simp only [Gives]
      go_simp
      exact ⟨Below.refl _ _, rfl, fun h => by cases h⟩
    refine And.intro (fun w hw hd => ?_) ?_
    · refine ite_yes rfl ?_
      simp only [Gives]
      go_simp
      exact ⟨Below.refl _ _, rfl, fun h => by cases h⟩
    refine And.intro (fun w hw hd => ?_) ?_
    · have d3 := hd 3 (by decide) rfl
      change vs 3 = _ at d3
      refine ite_yes rfl ?_
      simp only [Gives]
      go_simp
      exact ⟨Below.refl _ _, rfl, fun h => by cases h⟩
    refine And.intro (fun w hw hd => ?_) ?_
    · have d4 := hd 4 (by decide) rfl
      change vs 4 = _ at d4
      refine ite_yes rfl ?_
      have c_B4 := fun i => (B4.kept hw).cell i
      simp only [Gives]
      go_simp
      exact ⟨Below.refl _ _, rfl, fun h => by cases h⟩
    refine And.intro (fun w hw hd => ?_) ?_
    · refine ite_yes rfl ?_
      simp only [Gives]
      go_simp
      exact ⟨Below.refl _ _, rfl, fun h => by cases h⟩
    refine And.intro (fun w hw hd => ?_) ?_
    · have d5 := hd 5 (by decide) rfl
      change vs 5 = _ at d5
      have d6 := hd 6 (by decide) rfl
      change vs 6 = _ at d6
      refine ite_yes rfl ?_
      simp only [Gives]
      go_simp
      exact ⟨Below.refl _ _, rfl, fun h => by cases h⟩
    refine And.intro (fun w hw hd => ?_) ?_
    · have d7 := hd 7 (by decide) rfl
      change vs 7 = _ at d7
      refine ite_yes rfl ?_
      have c_B4 := fun i => (B4.kept hw).cell i
      have q0 : w.cell? ⟨bd, od + day, none⟩ = some (.int .i64 d) := by simpa using (HD.out.kept hw).cellAt HX.out (j := 0) rfl
      simp only [Gives]
      go_simp
      exact ⟨Below.refl _ _, rfl, fun h => by cases h⟩
    refine And.intro (fun w hw hd => ?_) ?_
    · have d2 := hd 2 (by decide) rfl
      change vs 2 = _ at d2
      have d8 := hd 8 (by decide) rfl
      change vs 8 = _ at d8
      refine ite_yes rfl ?_
      simp only [Gives]
      go_simp
      exact ⟨Below.refl _ _, rfl, fun h => by cases h⟩
    refine And.intro (fun w hw hd => ?_) ?_
    · have d9 := hd 9 (by decide) rfl
      change vs 9 = _ at d9
      refine ite_yes rfl ?_
      have c_B4 := fun i => (B4.kept hw).cell i
      have q0 : w.cell? ⟨bk, ok + d * 3, none⟩ = some (.int .i64 K.m) := (HK.out.kept hw).cellAt HY.out (j := 0) rfl
      have q1 : w.cell? ⟨bk, ok + d * 3 + 1, none⟩ = some (.int .i64 K.a) := (HK.out.kept hw).cellAt HY.out (j := 1) rfl
      have q2 : w.cell? ⟨bk, ok + d * 3 + 2, none⟩ = some (.int .i64 K.s) := (HK.out.kept hw).cellAt HY.out (j := 2) rfl
      simp only [Gives]
      go_simp
      exact ⟨Below.refl _ _, rfl, fun h => by cases h⟩
    refine And.intro (fun w hw hd => ?_) ?_
    · refine ite_yes rfl ?_
      simp only [Gives]
      go_simp
      exact ⟨Below.refl _ _, rfl, fun h => by cases h⟩
    refine And.intro (fun w hw hd => ?_) ?_
    · have d11 := hd 11 (by decide) rfl
      change vs 11 = _ at d11
      refine ite_yes rfl ?_
      simp only [Gives]
      go_simp
      exact ⟨Below.refl _ _, rfl, fun h => by cases h⟩
    refine And.intro (fun w hw hd => ?_) ?_
    · have d12 := hd 12 (by decide) rfl
      change vs 12 = _ at d12
      refine ite_yes rfl ?_
      have c_B4 := fun i => (B4.kept hw).cell i
      have q0 : w.cell? ⟨bd, od + day, none⟩ = some (.int .i64 d) := by simpa using (HD.out.kept hw).cellAt HX.out (j := 0) rfl
      simp only [Gives]
      go_simp
      exact ⟨Below.refl _ _, rfl, fun h => by cases h⟩
    refine And.intro (fun w hw hd => ?_) ?_
    · have d10 := hd 10 (by decide) rfl
      change vs 10 = _ at d10
      have d13 := hd 13 (by decide) rfl
      change vs 13 = _ at d13
      refine ite_yes rfl ?_
      simp only [Gives]
      go_simp
      refine (newCog_any b.n K w (by omega) (by omega)).mono ?_
      rintro e w1 ⟨rfl, hb⟩
      exact ⟨_, rfl, hb, rfl, fun h => by cases h⟩
    refine And.intro (fun w hw hd => ?_) ?_
    · refine ite_yes rfl ?_
      simp only [Gives]
      go_simp
      exact ⟨(Below.refl _ _).alloc (Nat.le_refl _) _, ⟨_, rfl, Box.new rfl⟩, fun _ => Nat.le_refl _⟩
    exact trivial
  intro vs wt hw hd hne hlo
  have d0 := hd 0 (by decide)
  change vs 0 = _ at d0
  have d1 := hd 1 (by decide)
  change vs 1 = _ at d1
  have d2 := hd 2 (by decide)
  change vs 2 = _ at d2
  have d3 := hd 3 (by decide)
  change vs 3 = _ at d3
  have d4 := hd 4 (by decide)
  change vs 4 = _ at d4
  have d5 := hd 5 (by decide)
  change vs 5 = _ at d5
  have d6 := hd 6 (by decide)
  change vs 6 = _ at d6
  have d7 := hd 7 (by decide)
  change vs 7 = _ at d7
  have d8 := hd 8 (by decide)
  change vs 8 = _ at d8
  have d9 := hd 9 (by decide)
  change vs 9 = _ at d9
  have d10 := hd 10 (by decide)
  change vs 10 = _ at d10
  have d11 := hd 11 (by decide)
  change vs 11 = _ at d11
  have d12 := hd 12 (by decide)
  change vs 12 = _ at d12
  have d13 := hd 13 (by decide)
  change vs 13 = _ at d13
  have d14 := hd 14 (by decide)
  change vs 14 = _ at d14
  obtain ⟨n15, d15, N15⟩ := hd 15 (by decide)
  have l15 := hlo 15 (by decide) rfl
  simp only [d15, blk] at l15
  simp only [d0, d1, d2, d3, d4, d5, d6, d7, d8, d9, d10, d11, d12, d13, d14, d15, List.drop_succ_cons, List.drop_zero]
  have B4 := B4.kept hw
  have c_B4 := fun i => B4.cell i
  have f_B4 := fun i => B4.free i
  have c_N15 := fun i => N15.cell i
  have f_N15 := fun i => N15.free i
  clear hd hne hlo d0 d1 d2 d3 d4 d5 d6 d7 d8 d9 d10 d11 d12 d13 d14 d15
  unfold cogV
  go_wp2_with fail
  have hlw := hw.size
  have e5 : w.heap.size + 1 ≠ n15 := by simp at l15; omega
  have N := Box.put5 (u0 := iv K.m) (u1 := iv K.a) (u2 := iv K.s) (u3 := iv b.n) (u4 := iv (undoI K.m b.n)) N15
  have B5 := (((((B5.kept hw).far (p := ⟨n15, 0, none⟩) e5 (iv K.m)).far (p := ⟨n15, 1, none⟩) e5 (iv K.a)).far (p := ⟨n15, 2, none⟩) e5 (iv K.s)).far (p := ⟨n15, 3, none⟩) e5 (iv b.n)).far (p := ⟨n15, 4, none⟩) e5 (iv (undoI K.m b.n))
  have lp : w.heap.size ≤ n15 := by simp at l15; omega
  have hB := up_put (up_put (up_put (up_put (up_put (up_later HB0.out hw) (p := ⟨n15, 0, none⟩) lp (iv K.m)) (p := ⟨n15, 1, none⟩) lp (iv K.a)) (p := ⟨n15, 2, none⟩) lp (iv K.s)) (p := ⟨n15, 3, none⟩) lp (iv b.n)) (p := ⟨n15, 4, none⟩) lp (iv (undoI K.m b.n))
  clear c_B4 f_B4 c_N15 f_N15 N15 l15 B4 HB0 HK HD hw hlw lp
  generalize hW2 : ((((wt.setCell ⟨n15, 0, none⟩ (iv K.m)).setCell ⟨n15, 1, none⟩ (iv K.a)).setCell ⟨n15, 2, none⟩ (iv K.s)).setCell ⟨n15, 3, none⟩ (iv b.n)).setCell ⟨n15, 4, none⟩ (iv (undoI K.m b.n)) = W2 at N B5 hB ⊢
  clear hW2
  obtain ⟨W3, hr, hown, hgrow⟩ := run_make_full (P := Try.prog) W2 w.heap.size 23 3 i0 (.int .i64 0) 1 Try.underlying23 hi0 hz0 hz1 .i64 .i64 l.length (by rw [hz2]; omega) (by unfold maxLen; omega) hB.size
  have hB3 : Below w.heap.size w W3 := hB.trans ((below_of_grown hgrow).mono hB.size)
  have N3 := N.kept (below_of_grown hgrow)
  have B3 := B5.kept (below_of_grown hgrow)
  have hlN := N.lt
  have hlB := B5.lt
  have hg0 := hB.size
  have hlt3 := (hown.lt W2.heap.size rfl).2
  have HO := Lib.hid (show W3.ownsRow w.heap.size 3 1 (.slice (some ⟨W2.heap.size, 0, none⟩) l.length l.length) l.length ((upto (mapI (codeI b.n K) 0 l) 0).map iv) by
    rw [upto_zero, mapI_len]
    simpa [toList_madeCells_one, Value.cells] using hown)
  rw [hr]
  clear hr hown hgrow N B5 hB
  generalize W2.heap.size = g at *
  go_wp2_with fail
  have Hlen := Lib.hid (mapI_len (codeI b.n K) 0 l)
  go_loopw [33] (fun i wr => ∃ k : Nat, k ≤ l.length ∧ i = .int .i64 k ∧ Below w.heap.size w wr ∧ Box wr (w.heap.size + 1) 141 #[.func (.func 110) #[] #[]] ∧ Box wr n15 139 #[iv K.m, iv K.a, iv K.s, iv b.n, iv (undoI K.m b.n)] ∧
    Hid (wr.ownsRow w.heap.size 3 1 (.slice (some ⟨g, 0, none⟩) l.length l.length) l.length ((upto (mapI (codeI b.n K) 0 l) k).map iv))) (fun i _ => l.length - (intOf i).toNat)
  case atStart => exact ⟨0, by omega, rfl, hB3, B3, N3, HO⟩
  case round =>
    clear HO B3 N3 hB3
    obtain ⟨k, hk, rfl, hB, B5, N, HO⟩ := hrel
    have c5 := fun i => B5.cell i
    have cN := fun i => N.cell i
    by_cases hlt : k < l.length
    · obtain ⟨x, hx⟩ : ∃ x, l[k]? = some x := ⟨_, List.getElem?_eq_getElem hlt⟩
      obtain ⟨bl, ol, rfl, hb, hc⟩ := (HV.out.kept hB).at rfl hx
      have q0 : wr.cell? ⟨bl, ol + k, none⟩ = some (.int .i64 x) := by simpa using hc 0 _ rfl
      have hxi := HI.out x (List.mem_of_getElem? hx)
      have HM := Lib.hid (mapI_at (codeI b.n K) 0 l k x hx)
      clear hc hx
      go_wp2_with fail
      refine (code_any b.n (undoI K.m b.n) K x k wr (by omega) (by omega) (by omega) (by omega) hxi (by omega)).mono ?_
      rintro e w1 ⟨rfl, hb1⟩
      have HO1 := own_below HO.out hb1
      have hgf : w1.frozen? ⟨g, k, none⟩ = false := own_free HO1
      have hgc : w1.cell? ⟨g, k, none⟩ = ((upto (mapI (codeI b.n K) 0 l) k).map iv)[k]? := by
        have := HO1.cellAt k (by omega)
        exact this
      obtain ⟨y, hy⟩ : ∃ y, (upto (mapI (codeI b.n K) 0 l) k)[k]? = some y := ⟨_, List.getElem?_eq_getElem (by rw [upto_len (by rw [Hlen.out]; omega), Hlen.out]; exact hlt)⟩
      rw [List.getElem?_map, hy] at hgc
      simp only [Option.map_some] at hgc
      have hgl : g < w1.heap.size := (HO1.lt g rfl).2
      have kk0 : (0 : Int) ≤ (k : Int) := by omega
      have kk1 : (k : Int) < (l.length : Int) := by omega
      clear c5 cN hy
      go_wp2_with fail
      go_roundw
      case rel =>
        refine ⟨k + 1, by omega, by go_num, up_put (up_later hB hb1) (by simp; omega) _, (B5.kept hb1).far (p := ⟨g, k, none⟩) (by simp; omega) _, (N.kept hb1).far (p := ⟨g, k, none⟩) (by simp; omega) _, ?_⟩
        have h := (own_put (i := k) (u := iv (codeI b.n K x k)) HO1).2.2
        rw [← List.map_set, upto_set (by simpa using HM.out)] at h
        exact h
      case measure => simp [intOf]; omega
    · have hke : k = l.length := by omega
      subst hke
      go_wp2_with fail
      go_ret
      have h := HO.out
      have e : upto (mapI (codeI b.n K) 0 l) l.length = mapI (codeI b.n K) 0 l := by
        have := upto_all (mapI (codeI b.n K) 0 l)
        rwa [Hlen.out] at this
      rw [e] at h
      exact ⟨_, rfl, h, hB⟩
set_option maxRecDepth 100000 in
set_option maxHeartbeats 4000000 in
theorem changed_plain (v1 v2 v3 v4 : Value) (b : Bk) (day : Nat) (l : List Int) (w : World) (hok : BookOK b) (hL : BookAt w v1 v2 b) (hd : day < b.ds.length) (hl : IntsAt w v4 l) (hin : ∀ x ∈ l, 0 ≤ x ∧ x ≤ 1000) :
    Calls Try.prog 95 #[deskV b v1 v2 v3, .agg #[.func (.func 96) #[] #[]], iv day, v4] w fun e w' =>
      ∃ v, e = .returned v ∧ w'.ownsRow w.heap.size 3 1 v l.length ((mapI (plainI b.n (keyOf b day)) 0 l).map iv) ∧ Below w.heap.size w w' := by
  obtain ⟨i0, hi0, hz0, hz1, hz2⟩ := info_parts int_info
  obtain ⟨_, A1, cap1, rfl, _, _⟩ := hL.ks.form
  obtain ⟨_, A2, cap2, rfl, _, _⟩ := hL.ds.form
  obtain ⟨hlen, A4, cap4, rfl, _, _⟩ := hl.form
  obtain ⟨d, hx, hy⟩ := hok.keyAt hd
  obtain ⟨bk, ok, rfl, _, _⟩ := hL.ks.at rfl hy
  obtain ⟨bd, od, rfl, _, _⟩ := hL.ds.at rfl hx
  obtain ⟨m1, m2, a1, a2, s1, s2⟩ := hok.key hd
  have hn1 := hok.n1
  have hn2 := hok.n2
  have hdk : d < b.ks.length := (List.getElem?_eq_some_iff.1 hy).1
  have HK := Lib.hid hL.ks
  have HD := Lib.hid hL.ds
  have HV := Lib.hid hl
  have HX := Lib.hid hx
  have HY := Lib.hid hy
  have HI := Lib.hid hin
  obtain ⟨K, hK⟩ : ∃ K, keyOf b day = K := ⟨_, rfl⟩
  rw [hK] at HY m1 m2 a1 a2 s1 s2 ⊢
  have j0 : (0 : Int) ≤ (day : Int) := by omega
  have j1 : (day : Int) < (b.ds.length : Int) := by omega
  have k0 : (0 : Int) ≤ (d : Int) := by omega
  have k1 : (d : Int) < (b.ks.length : Int) := by omega
  clear hL hx hy hok hl hin hK
  unfold deskV
  go_enter Try.func95, Try.ntmps95
  go_wp2_with fail
  have B4 := (Box.new (w := w) (t := 98) (cs := #[iv b.n, iv b.w, .slice (some ⟨bk, ok, none⟩) b.ks.length cap1, .slice (some ⟨bd, od, none⟩) b.ds.length cap2, v3]) rfl).alloc (.cells #[.func (.func 96) #[] #[]] 141)
  have B5 := Box.new (w := w.alloc (.cells #[iv b.n, iv b.w, .slice (some ⟨bk, ok, none⟩) b.ks.length cap1, .slice (some ⟨bd, od, none⟩) b.ds.length cap2, v3] 98)) (g := w.heap.size + 1) (t := 141) (cs := #[.func (.func 96) #[] #[]]) (by simp)
  have hB0 : Below w.heap.size w ((w.alloc (.cells #[iv b.n, iv b.w, .slice (some ⟨bk, ok, none⟩) b.ks.length cap1, .slice (some ⟨bd, od, none⟩) b.ds.length cap2, v3] 98)).alloc (.cells #[.func (.func 96) #[] #[]] 141)) := up_alloc (up_alloc up0 _) _
  have HK := Lib.hid (HK.out.kept hB0)
  have HD := Lib.hid (HD.out.kept hB0)
  have HB0 := Lib.hid hB0
  clear hB0
  apply wp_region_by 16 [(Fact.eq _), (Fact.eq _), (Fact.eq _), (Fact.eq _), (Fact.eq _), (Fact.eq _), (Fact.eq _), (Fact.eq _), (Fact.eq _), (Fact.eq _), (Fact.eq _), (Fact.eq _), (Fact.eq _), (Fact.eq _), (Fact.eq _), (Fact.box 139 _)]
  case hm => kernel_rfl
  case hB => kernel_rfl
  case hA => (intro vs; simp only [List.take_succ_cons, List.take_zero, putAll, if_true, Act.put, List.setIfInBounds_toArray, List.set_cons_zero, List.set_cons_succ]; exact rfl)
  case hstep =>
    intro vs
    refine And.intro (fun w hw hd => ?_) ?_
    · refine ite_yes rfl ?_
      simp only [Gives]
      go_simp
      exact ⟨Below.refl _ _, rfl, fun h => by cases h⟩
    refine And.intro (fun w hw hd => ?_) ?_
    · have d0 := hd 0 (by decide) rfl
      change vs 0 = _ at d0
      refine ite_yes rfl ?_
      simp only [Gives]
      go_simp
      exact ⟨Below.refl _ _, rfl, fun h => by cases h⟩
    refine And.intro (fun w hw hd => ?_) ?_
    · have d1 := hd 1 (by decide) rfl
      change vs 1 = _ at d1
      refine ite_yes rfl ?_
      have c_B4 := fun i => (B4.kept hw).cell i
      simp only [Gives]
      go_simp
      exact ⟨Below.refl _ _, rfl, fun h => by cases h⟩
    refine And.intro (fun w hw hd => ?_) ?_
    · refine ite_yes rfl ?_
      simp only [Gives]
      go_simp
      exact ⟨Below.refl _ _, rfl, fun h => by cases h⟩
    refine And.intro (fun w hw hd => ?_) ?_
    · have d3 := hd 3 (by decide) rfl
      change vs 3 = _ at d3
      refine ite_yes rfl ?_
      simp only [Gives]
      go_simp
      exact ⟨Below.refl _ _, rfl, fun h => by cases h⟩
    refine And.intro (fun w hw hd => ?_) ?_
    · have d4 := hd 4 (by decide) rfl
      change vs 4 = _ at d4
      refine ite_yes rfl ?_
      have c_B4 := fun i => (B4.kept hw).cell i
      simp only [Gives]
      go_simp
      exact ⟨Below.refl _ _, rfl, fun h => by cases h⟩
    refine And.intro (fun w hw hd => ?_) ?_
    · refine ite_yes rfl ?_
      simp only [Gives]
      go_simp
      exact ⟨Below.refl _ _, rfl, fun h => by cases h⟩
    refine And.intro (fun w hw hd => ?_) ?_
    · have d5 := hd 5 (by decide) rfl
      change vs 5 = _ at d5
      have d6 := hd 6 (by decide) rfl
      change vs 6 = _ at d6
      refine ite_yes rfl ?_
      simp only [Gives]
      go_simp
      exact ⟨Below.refl _ _, rfl, fun h => by cases h⟩
    refine And.intro (fun w hw hd => ?_) ?_
    · have d7 := hd 7 (by decide) rfl
      change vs 7 = _ at d7
      refine ite_yes rfl ?_
      have c_B4 := fun i => (B4.kept hw).cell i
      have q0 : w.cell? ⟨bd, od + day, none⟩ = some (.int .i64 d) := by simpa using (HD.out.kept hw).cellAt HX.out (j := 0) rfl
      simp only [Gives]
      go_simp
      exact ⟨Below.refl _ _, rfl, fun h => by cases h⟩
    refine And.intro (fun w hw hd => ?_) ?_
    · have d2 := hd 2 (by decide) rfl
      change vs 2 = _ at d2
      have d8 := hd 8 (by decide) rfl
      change vs 8 = _ at d8
      refine ite_yes rfl ?_
      simp only [Gives]
      go_simp
      exact ⟨Below.refl _ _, rfl, fun h => by cases h⟩
    refine And.intro (fun w hw hd => ?_) ?_
    · have d9 := hd 9 (by decide) rfl
      change vs 9 = _ at d9
      refine ite_yes rfl ?_
      have c_B4 := fun i => (B4.kept hw).cell i
      have q0 : w.cell? ⟨bk, ok + d * 3, none⟩ = some (.int .i64 K.m) := (HK.out.kept hw).cellAt HY.out (j := 0) rfl
      have q1 : w.cell? ⟨bk, ok + d * 3 + 1, none⟩ = some (.int .i64 K.a) := (HK.out.kept hw).cellAt HY.out (j := 1) rfl
      have q2 : w.cell? ⟨bk, ok + d * 3 + 2, none⟩ = some (.int .i64 K.s) := (HK.out.kept hw).cellAt HY.out (j := 2) rfl
      simp only [Gives]
      go_simp
      exact ⟨Below.refl _ _, rfl, fun h => by cases h⟩
    refine And.intro (fun w hw hd => ?_) ?_
    · refine ite_yes rfl ?_
      simp only [Gives]
      go_simp
      exact ⟨Below.refl _ _, rfl, fun h => by cases h⟩
    refine And.intro (fun w hw hd => ?_) ?_
    · have d11 := hd 11 (by decide) rfl
      change vs 11 = _ at d11
      refine ite_yes rfl ?_
      simp only [Gives]
      go_simp
      exact ⟨Below.refl _ _, rfl, fun h => by cases h⟩
    refine And.intro (fun w hw hd => ?_) ?_
    · have d12 := hd 12 (by decide) rfl
      change vs 12 = _ at d12
      refine ite_yes rfl ?_
      have c_B4 := fun i => (B4.kept hw).cell i
      have q0 : w.cell? ⟨bd, od + day, none⟩ = some (.int .i64 d) := by simpa using (HD.out.kept hw).cellAt HX.out (j := 0) rfl
      simp only [Gives]
      go_simp
      exact ⟨Below.refl _ _, rfl, fun h => by cases h⟩
    refine And.intro (fun w hw hd => ?_) ?_
    · have d10 := hd 10 (by decide) rfl
      change vs 10 = _ at d10
      have d13 := hd 13 (by decide) rfl
      change vs 13 = _ at d13
      refine ite_yes rfl ?_
      simp only [Gives]
      go_simp
      refine (newCog_any b.n K w (by omega) (by omega)).mono ?_
      rintro e w1 ⟨rfl, hb⟩
      exact ⟨_, rfl, hb, rfl, fun h => by cases h⟩
    refine And.intro (fun w hw hd => ?_) ?_
    · refine ite_yes rfl ?_
      simp only [Gives]
      go_simp
      exact ⟨(Below.refl _ _).alloc (Nat.le_refl _) _, ⟨_, rfl, Box.new rfl⟩, fun _ => Nat.le_refl _⟩
    exact trivial
  intro vs wt hw hd hne hlo
  have d0 := hd 0 (by decide)
  change vs 0 = _ at d0
  have d1 := hd 1 (by decide)
  change vs 1 = _ at d1
  have d2 := hd 2 (by decide)
  change vs 2 = _ at d2
  have d3 := hd 3 (by decide)
  change vs 3 = _ at d3
  have d4 := hd 4 (by decide)
  change vs 4 = _ at d4
  have d5 := hd 5 (by decide)
  change vs 5 = _ at d5
  have d6 := hd 6 (by decide)
  change vs 6 = _ at d6
  have d7 := hd 7 (by decide)
  change vs 7 = _ at d7
  have d8 := hd 8 (by decide)
  change vs 8 = _ at d8
  have d9 := hd 9 (by decide)
  change vs 9 = _ at d9
  have d10 := hd 10 (by decide)
  change vs 10 = _ at d10
  have d11 := hd 11 (by decide)
  change vs 11 = _ at d11
  have d12 := hd 12 (by decide)
  change vs 12 = _ at d12
  have d13 := hd 13 (by decide)
  change vs 13 = _ at d13
  have d14 := hd 14 (by decide)
  change vs 14 = _ at d14
  obtain ⟨n15, d15, N15⟩ := hd 15 (by decide)
  have l15 := hlo 15 (by decide) rfl
  simp only [d15, blk] at l15
  simp only [d0, d1, d2, d3, d4, d5, d6, d7, d8, d9, d10, d11, d12, d13, d14, d15, List.drop_succ_cons, List.drop_zero]
  have B4 := B4.kept hw
  have c_B4 := fun i => B4.cell i
  have f_B4 := fun i => B4.free i
  have c_N15 := fun i => N15.cell i
  have f_N15 := fun i => N15.free i
  clear hd hne hlo d0 d1 d2 d3 d4 d5 d6 d7 d8 d9 d10 d11 d12 d13 d14 d15
  unfold cogV
  go_wp2_with fail
  have hlw := hw.size
  have e5 : w.heap.size + 1 ≠ n15 := by simp at l15; omega
  have N := Box.put5 (u0 := iv K.m) (u1 := iv K.a) (u2 := iv K.s) (u3 := iv b.n) (u4 := iv (undoI K.m b.n)) N15
  have B5 := (((((B5.kept hw).far (p := ⟨n15, 0, none⟩) e5 (iv K.m)).far (p := ⟨n15, 1, none⟩) e5 (iv K.a)).far (p := ⟨n15, 2, none⟩) e5 (iv K.s)).far (p := ⟨n15, 3, none⟩) e5 (iv b.n)).far (p := ⟨n15, 4, none⟩) e5 (iv (undoI K.m b.n))
  have lp : w.heap.size ≤ n15 := by simp at l15; omega
  have hB := up_put (up_put (up_put (up_put (up_put (up_later HB0.out hw) (p := ⟨n15, 0, none⟩) lp (iv K.m)) (p := ⟨n15, 1, none⟩) lp (iv K.a)) (p := ⟨n15, 2, none⟩) lp (iv K.s)) (p := ⟨n15, 3, none⟩) lp (iv b.n)) (p := ⟨n15, 4, none⟩) lp (iv (undoI K.m b.n))
  clear c_B4 f_B4 c_N15 f_N15 N15 l15 B4 HB0 HK HD hw hlw lp
  generalize hW2 : ((((wt.setCell ⟨n15, 0, none⟩ (iv K.m)).setCell ⟨n15, 1, none⟩ (iv K.a)).setCell ⟨n15, 2, none⟩ (iv K.s)).setCell ⟨n15, 3, none⟩ (iv b.n)).setCell ⟨n15, 4, none⟩ (iv (undoI K.m b.n)) = W2 at N B5 hB ⊢
  clear hW2
  obtain ⟨W3, hr, hown, hgrow⟩ := run_make_full (P := Try.prog) W2 w.heap.size 23 3 i0 (.int .i64 0) 1 Try.underlying23 hi0 hz0 hz1 .i64 .i64 l.length (by rw [hz2]; omega) (by unfold maxLen; omega) hB.size
  have hB3 : Below w.heap.size w W3 := hB.trans ((below_of_grown hgrow).mono hB.size)
  have N3 := N.kept (below_of_grown hgrow)
  have B3 := B5.kept (below_of_grown hgrow)
  have hlN := N.lt
  have hlB := B5.lt
  have hg0 := hB.size
  have hlt3 := (hown.lt W2.heap.size rfl).2
  have HO := Lib.hid (show W3.ownsRow w.heap.size 3 1 (.slice (some ⟨W2.heap.size, 0, none⟩) l.length l.length) l.length ((upto (mapI (plainI b.n K) 0 l) 0).map iv) by
    rw [upto_zero, mapI_len]
    simpa [toList_madeCells_one, Value.cells] using hown)
  rw [hr]
  clear hr hown hgrow N B5 hB
  generalize W2.heap.size = g at *
  go_wp2_with fail
  have Hlen := Lib.hid (mapI_len (plainI b.n K) 0 l)
  go_loopw [33] (fun i wr => ∃ k : Nat, k ≤ l.length ∧ i = .int .i64 k ∧ Below w.heap.size w wr ∧ Box wr (w.heap.size + 1) 141 #[.func (.func 96) #[] #[]] ∧ Box wr n15 139 #[iv K.m, iv K.a, iv K.s, iv b.n, iv (undoI K.m b.n)] ∧
    Hid (wr.ownsRow w.heap.size 3 1 (.slice (some ⟨g, 0, none⟩) l.length l.length) l.length ((upto (mapI (plainI b.n K) 0 l) k).map iv))) (fun i _ => l.length - (intOf i).toNat)
  case atStart => exact ⟨0, by omega, rfl, hB3, B3, N3, HO⟩
  case round =>
    clear HO B3 N3 hB3
    obtain ⟨k, hk, rfl, hB, B5, N, HO⟩ := hrel
    have c5 := fun i => B5.cell i
    have cN := fun i => N.cell i
    by_cases hlt : k < l.length
    · obtain ⟨x, hx⟩ : ∃ x, l[k]? = some x := ⟨_, List.getElem?_eq_getElem hlt⟩
      obtain ⟨bl, ol, rfl, hb, hc⟩ := (HV.out.kept hB).at rfl hx
      have q0 : wr.cell? ⟨bl, ol + k, none⟩ = some (.int .i64 x) := by simpa using hc 0 _ rfl
      have hxi := HI.out x (List.mem_of_getElem? hx)
      have HM := Lib.hid (mapI_at (plainI b.n K) 0 l k x hx)
      clear hc hx
      go_wp2_with fail
      refine (plain_any b.n (undoI K.m b.n) K x k wr (by omega) (by have := powI_in (m := K.m) (n := b.n) (by omega) (by omega) (b.n - 2).toNat; unfold undoI; omega) (by omega) (by omega) hxi (by omega) rfl).mono ?_
      rintro e w1 ⟨rfl, hb1⟩
      have HO1 := own_below HO.out hb1
      have hgf : w1.frozen? ⟨g, k, none⟩ = false := own_free HO1
      have hgc : w1.cell? ⟨g, k, none⟩ = ((upto (mapI (plainI b.n K) 0 l) k).map iv)[k]? := by
        have := HO1.cellAt k (by omega)
        exact this
      obtain ⟨y, hy⟩ : ∃ y, (upto (mapI (plainI b.n K) 0 l) k)[k]? = some y := ⟨_, List.getElem?_eq_getElem (by rw [upto_len (by rw [Hlen.out]; omega), Hlen.out]; exact hlt)⟩
      rw [List.getElem?_map, hy] at hgc
      simp only [Option.map_some] at hgc
      have hgl : g < w1.heap.size := (HO1.lt g rfl).2
      have kk0 : (0 : Int) ≤ (k : Int) := by omega
      have kk1 : (k : Int) < (l.length : Int) := by omega
      clear c5 cN hy
      go_wp2_with fail
      go_roundw
      case rel =>
        refine ⟨k + 1, by omega, by go_num, up_put (up_later hB hb1) (by simp; omega) _, (B5.kept hb1).far (p := ⟨g, k, none⟩) (by simp; omega) _, (N.kept hb1).far (p := ⟨g, k, none⟩) (by simp; omega) _, ?_⟩
        have h := (own_put (i := k) (u := iv (plainI b.n K x k)) HO1).2.2
        rw [← List.map_set, upto_set (by simpa using HM.out)] at h
        exact h
      case measure => simp [intOf]; omega
    · have hke : k = l.length := by omega
      subst hke
      go_wp2_with fail
      go_ret
      have h := HO.out
      have e : upto (mapI (plainI b.n K) 0 l) l.length = mapI (plainI b.n K) 0 l := by
        have := upto_all (mapI (plainI b.n K) 0 l)
        rwa [Hlen.out] at this
      rw [e] at h
      exact ⟨_, rfl, h, hB⟩

set_option maxHeartbeats 400000 in
theorem coded_any (v1 v2 v3 v4 : Value) (b : Bk) (day : Nat) (l : List Int) (w : World) (hok : BookOK b) (hL : BookAt w v1 v2 b) (hd : day < b.ds.length) (hl : IntsAt w v4 l) (hin : ∀ x ∈ l, 0 ≤ x ∧ x ≤ 1000) :
    Calls Try.prog 91 #[deskV b v1 v2 v3, iv day, v4] w fun e w' =>
      ∃ v, e = .returned v ∧ w'.ownsRow w.heap.size 3 1 v l.length ((codesI b.n (keyOf b day) 0 l).map iv) ∧ Below w.heap.size w w' := by
  obtain ⟨_, A1, cap1, rfl, _, _⟩ := hL.ks.form
  obtain ⟨_, A2, cap2, rfl, _, _⟩ := hL.ds.form
  obtain ⟨_, A4, cap4, rfl, _, _⟩ := hl.form
  have HL := Lib.hid hL
  have HV := Lib.hid hl
  clear hL hl
  unfold deskV
  go_enter Try.func91, Try.ntmps91
  go_wp2_with fail
  have hB : Below w.heap.size w (w.alloc (.cells #[iv b.n, iv b.w, .slice A1 b.ks.length cap1, .slice A2 b.ds.length cap2, v3] 98)) := up_alloc up0 _
  refine (changed_code _ _ _ _ b day l _ hok (HL.out.kept hB) hd (HV.out.kept hB) hin).mono ?_
  rintro e w1 ⟨v, rfl, ho, hb⟩
  go_wp2_with fail
  go_ret
  rw [← codesI_eq] at ho
  exact ⟨v, by simp [go_sem], own_mono ho (by simp), up_later hB hb⟩
set_option maxHeartbeats 400000 in
theorem decoded_any (v1 v2 v3 v4 : Value) (b : Bk) (day : Nat) (l : List Int) (w : World) (hok : BookOK b) (hL : BookAt w v1 v2 b) (hd : day < b.ds.length) (hl : IntsAt w v4 l) (hin : ∀ x ∈ l, 0 ≤ x ∧ x ≤ 1000) :
    Calls Try.prog 65 #[deskV b v1 v2 v3, iv day, v4] w fun e w' =>
      ∃ v, e = .returned v ∧ w'.ownsRow w.heap.size 3 1 v l.length ((plainsI b.n (keyOf b day) 0 l).map iv) ∧ Below w.heap.size w w' := by
  obtain ⟨_, A1, cap1, rfl, _, _⟩ := hL.ks.form
  obtain ⟨_, A2, cap2, rfl, _, _⟩ := hL.ds.form
  obtain ⟨_, A4, cap4, rfl, _, _⟩ := hl.form
  have HL := Lib.hid hL
  have HV := Lib.hid hl
  clear hL hl
  unfold deskV
  go_enter Try.func65, Try.ntmps65
  go_wp2_with fail
  have hB : Below w.heap.size w (w.alloc (.cells #[iv b.n, iv b.w, .slice A1 b.ks.length cap1, .slice A2 b.ds.length cap2, v3] 98)) := up_alloc up0 _
  refine (changed_plain _ _ _ _ b day l _ hok (HL.out.kept hB) hd (HV.out.kept hB) hin).mono ?_
  rintro e w1 ⟨v, rfl, ho, hb⟩
  go_wp2_with fail
  go_ret
  rw [← plainsI_eq] at ho
  exact ⟨v, by simp [go_sem], own_mono ho (by simp), up_later hB hb⟩

end Go.Proofs.Ytkhfkmfofhnmdaa
