/-
  WALKS of '(riddle).agrees'; PLAIN: the keys of a size, in order, and those that agree. Conditions: the guesses are valid.
-/
import Derived.Test.YtkhfkmfofhnmdaaSq
namespace Go.Proofs.Ytkhfkmfofhnmdaa
open Go.RowKit

/-- All guesses have their codes by the key. -/
def agreeB (n : Int) (codes : List Int) (gs : List Gs) (k : Ky) : Bool := gs.all fun g => codeI n k g.p g.a == codes.getD g.a.toNat 0
def smallK (k : Ky) : Prop := (0 ≤ k.m ∧ k.m ≤ 1000) ∧ (0 ≤ k.a ∧ k.a ≤ 1000) ∧ (0 ≤ k.s ∧ k.s ≤ 1000)

set_option maxRecDepth 100000 in
set_option maxHeartbeats 1000000 in
theorem agrees1_any (Bc Br : Nat) (n u ws : Int) (k : Ky) (v1 v2 v3 v5 : Value) (A4 : Option Addr) (c4 : Nat) (codes : List Int) (x : Gs) (w : World) (hC : Box w Bc 139 #[iv k.m, iv k.a, iv k.s, iv n, iv u]) (hR : Box w Br 118 #[iv n, iv ws, v1, v2, v3, .slice A4 codes.length c4, v5])
    (hc : IntsAt w (.slice A4 codes.length c4) codes) (hn : 1 ≤ n ∧ n ≤ 1000) (hk : smallK k) (ha : 0 ≤ x.a ∧ x.a < codes.length) (hp : 0 ≤ x.p ∧ x.p ≤ 1000) :
    Calls Try.prog 116 #[.agg #[iv x.a, iv x.p], .pointer (some ⟨Bc, 0, none⟩), .pointer (some ⟨Br, 0, none⟩)] w fun e w' => e = .returned (.bool (codeI n k x.p x.a == codes.getD x.a.toNat 0)) ∧ Below w.heap.size w w' := by
  obtain ⟨xa, xp⟩ := x
  simp only at ha hp ⊢
  obtain ⟨a, rfl⟩ : ∃ a : Nat, xa = a := ⟨xa.toNat, by omega⟩
  have hal : a < codes.length := by omega
  obtain ⟨y, hy⟩ : ∃ y, codes[a]? = some y := ⟨_, List.getElem?_eq_getElem hal⟩
  have hyy : codes.getD (a : Int).toNat 0 = y := by rw [Int.toNat_natCast, List.getD_eq_getElem?_getD, hy]; rfl
  have hlen := hc.form.1
  obtain ⟨bl, ol, rfl, _, _⟩ := hc.at rfl hy
  rw [hyy]
  have HC := Lib.hid hc
  have HY := Lib.hid hy
  have HK := Lib.hid hk
  have a0 : (0 : Int) ≤ (a : Int) := by omega
  have a1 : (a : Int) < (codes.length : Int) := by omega
  clear hc hy hyy hk ha
  go_enter Try.func116, Try.ntmps116
  go_wp2_with fail
  have hB : Below w.heap.size w (w.alloc (.cells #[iv a, iv xp] 74)) := up_alloc up0 _
  have T := Box.new (w := w) (t := 74) (cs := #[iv a, iv xp]) rfl
  have C := hC.kept hB
  have R := hR.kept hB
  have HC := Lib.hid (HC.out.kept hB)
  have HB := Lib.hid hB
  clear hC hR hB
  apply wp_region_by 14 [(Fact.eq _), (Fact.eq _), (Fact.eq _), (Fact.eq _), (Fact.eq _), (Fact.eq _), (Fact.eq _), (Fact.eq _), (Fact.eq _), (Fact.eq _), (Fact.eq _), (Fact.eq _), (Fact.eq _), (Fact.eq _)]
  case hm => kernel_rfl
  case hB => kernel_rfl
  case hA => (intro vs; simp only [List.take_succ_cons, List.take_zero, putAll, if_true, Act.put, List.setIfInBounds_toArray, List.set_cons_zero, List.set_cons_succ]; exact rfl)
  case hstep =>
    intro vs
    refine And.intro (fun w hw hd => ?_) ?_
    · refine ite_yes rfl ?_
      have c_T := fun i => (T.kept hw).cell i
      have c_C := fun i => (C.kept hw).cell i
      have c_R := fun i => (R.kept hw).cell i
      simp only [Gives]
      go_simp
      exact ⟨Below.refl _ _, rfl, fun h => by cases h⟩
    refine And.intro (fun w hw hd => ?_) ?_
    · refine ite_yes rfl ?_
      simp only [Gives]
      go_simp
      exact ⟨Below.refl _ _, rfl, fun h => by cases h⟩
    refine And.intro (fun w hw hd => ?_) ?_
    · have d1 := hd 1 (by decide) rfl
      change vs 1 = _ at d1
      refine ite_yes rfl ?_
      have c_T := fun i => (T.kept hw).cell i
      have c_C := fun i => (C.kept hw).cell i
      have c_R := fun i => (R.kept hw).cell i
      have q0 : w.cell? ⟨bl, ol + a, none⟩ = some (.int .i64 y) := by simpa using (HC.out.kept hw).cellAt HY.out (j := 0) rfl
      simp only [Gives]
      go_simp
      exact ⟨Below.refl _ _, rfl, fun h => by cases h⟩
    refine And.intro (fun w hw hd => ?_) ?_
    · refine ite_yes rfl ?_
      simp only [Gives]
      go_simp
      exact ⟨Below.refl _ _, rfl, fun h => by cases h⟩
    refine And.intro (fun w hw hd => ?_) ?_
    · have d3 := hd 3 (by decide) rfl
      change vs 3 = _ at d3
      refine ite_yes rfl ?_
      have c_T := fun i => (T.kept hw).cell i
      have c_C := fun i => (C.kept hw).cell i
      have c_R := fun i => (R.kept hw).cell i
      have q0 : w.cell? ⟨bl, ol + a, none⟩ = some (.int .i64 y) := by simpa using (HC.out.kept hw).cellAt HY.out (j := 0) rfl
      simp only [Gives]
      go_simp
      exact ⟨Below.refl _ _, rfl, fun h => by cases h⟩
    refine And.intro (fun w hw hd => ?_) ?_
    · have d0 := hd 0 (by decide) rfl
      change vs 0 = _ at d0
      have d2 := hd 2 (by decide) rfl
      change vs 2 = _ at d2
      have d4 := hd 4 (by decide) rfl
      change vs 4 = _ at d4
      refine ite_yes rfl ?_
      simp only [Gives]
      go_simp
      refine (code_any n u k xp a w hn HK.out.1 HK.out.2.1 HK.out.2.2 hp (by omega)).mono ?_
      rintro e w1 ⟨rfl, hb⟩
      exact ⟨_, rfl, hb, rfl, fun h => by cases h⟩
    refine And.intro (fun w hw hd => ?_) ?_
    · refine ite_yes rfl ?_
      simp only [Gives]
      go_simp
      exact ⟨Below.refl _ _, rfl, fun h => by cases h⟩
    refine And.intro (fun w hw hd => ?_) ?_
    · have d6 := hd 6 (by decide) rfl
      change vs 6 = _ at d6
      refine ite_yes rfl ?_
      have c_T := fun i => (T.kept hw).cell i
      have c_C := fun i => (C.kept hw).cell i
      have c_R := fun i => (R.kept hw).cell i
      simp only [Gives]
      go_simp
      exact ⟨Below.refl _ _, rfl, fun h => by cases h⟩
    refine And.intro (fun w hw hd => ?_) ?_
    · refine ite_yes rfl ?_
      simp only [Gives]
      go_simp
      exact ⟨Below.refl _ _, rfl, fun h => by cases h⟩
    refine And.intro (fun w hw hd => ?_) ?_
    · have d8 := hd 8 (by decide) rfl
      change vs 8 = _ at d8
      refine ite_yes rfl ?_
      have c_T := fun i => (T.kept hw).cell i
      have c_C := fun i => (C.kept hw).cell i
      have c_R := fun i => (R.kept hw).cell i
      have q0 : w.cell? ⟨bl, ol + a, none⟩ = some (.int .i64 y) := by simpa using (HC.out.kept hw).cellAt HY.out (j := 0) rfl
      simp only [Gives]
      go_simp
      exact ⟨Below.refl _ _, rfl, fun h => by cases h⟩
    refine And.intro (fun w hw hd => ?_) ?_
    · have d7 := hd 7 (by decide) rfl
      change vs 7 = _ at d7
      have d9 := hd 9 (by decide) rfl
      change vs 9 = _ at d9
      refine ite_yes rfl ?_
      simp only [Gives]
      go_simp
      exact ⟨Below.refl _ _, rfl, fun h => by cases h⟩
    refine And.intro (fun w hw hd => ?_) ?_
    · have d10 := hd 10 (by decide) rfl
      change vs 10 = _ at d10
      refine ite_yes rfl ?_
      have c_T := fun i => (T.kept hw).cell i
      have c_C := fun i => (C.kept hw).cell i
      have c_R := fun i => (R.kept hw).cell i
      have q0 : w.cell? ⟨bl, ol + a, none⟩ = some (.int .i64 y) := by simpa using (HC.out.kept hw).cellAt HY.out (j := 0) rfl
      simp only [Gives]
      go_simp
      exact ⟨Below.refl _ _, rfl, fun h => by cases h⟩
    refine And.intro (fun w hw hd => ?_) ?_
    · have d5 := hd 5 (by decide) rfl
      change vs 5 = _ at d5
      have d11 := hd 11 (by decide) rfl
      change vs 11 = _ at d11
      refine ite_yes rfl ?_
      simp only [Gives]
      go_simp
      exact ⟨Below.refl _ _, rfl, fun h => by cases h⟩
    refine And.intro (fun w hw hd => ?_) ?_
    · have d12 := hd 12 (by decide) rfl
      change vs 12 = _ at d12
      refine ite_yes rfl ?_
      simp only [Gives]
      go_simp
      exact ⟨Below.refl _ _, rfl, fun h => by cases h⟩
    exact trivial
  intro vs wt hw hd hne hlo
  have d0 := hd 0 (by decide)
  change vs 0 = _ at d0
  have d1 := hd 1 (by decide)
  change vs 1 = _ at d1
  have d2 := hd 2 (by decide)
  change vs 2 = _ at d2
  have d3 := hd 3 (by decide)
  change vs 3 = _ at d3
  have d4 := hd 4 (by decide)
  change vs 4 = _ at d4
  have d5 := hd 5 (by decide)
  change vs 5 = _ at d5
  have d6 := hd 6 (by decide)
  change vs 6 = _ at d6
  have d7 := hd 7 (by decide)
  change vs 7 = _ at d7
  have d8 := hd 8 (by decide)
  change vs 8 = _ at d8
  have d9 := hd 9 (by decide)
  change vs 9 = _ at d9
  have d10 := hd 10 (by decide)
  change vs 10 = _ at d10
  have d11 := hd 11 (by decide)
  change vs 11 = _ at d11
  have d12 := hd 12 (by decide)
  change vs 12 = _ at d12
  have d13 := hd 13 (by decide)
  change vs 13 = _ at d13
  simp only [d0, d1, d2, d3, d4, d5, d6, d7, d8, d9, d10, d11, d12, d13, List.drop_succ_cons, List.drop_nil]
  have T := T.kept hw
  have C := C.kept hw
  have R := R.kept hw
  have c_T := fun i => T.cell i
  have f_T := fun i => T.free i
  have c_C := fun i => C.cell i
  have f_C := fun i => C.free i
  have c_R := fun i => R.cell i
  have f_R := fun i => R.free i
  clear hd hne hlo d0 d1 d2 d3 d4 d5 d6 d7 d8 d9 d10 d11 d12 d13
  go_wp2_with fail
  go_ret
  exact ⟨rfl, up_later HB.out hw⟩

set_option maxRecDepth 100000 in
set_option maxHeartbeats 1000000 in
theorem agrees_any (n u ws : Int) (k : Ky) (v1 v2 v3 v4 v5 : Value) (codes : List Int) (gs : List Gs) (w : World) (hc : IntsAt w v4 codes) (hg : RowsAt w v5 2 Gs.cells gs) (hn : 1 ≤ n ∧ n ≤ 1000) (hk : smallK k) (hin : ∀ x ∈ gs, 0 ≤ x.a ∧ x.a < codes.length ∧ 0 ≤ x.p ∧ x.p ≤ 1000) :
    Calls Try.prog 115 #[.agg #[iv n, iv ws, v1, v2, v3, v4, v5], cogV n u k] w fun e w' => e = .returned (.bool (agreeB n codes gs k)) ∧ Below w.heap.size w w' := by
  obtain ⟨_, A4, c4, rfl, _, _⟩ := hc.form
  obtain ⟨_, A5, c5, rfl, _, _⟩ := hg.form
  have HC := Lib.hid hc
  have HG := Lib.hid hg
  have HK := Lib.hid hk
  have HI := Lib.hid hin
  clear hc hg hk hin
  unfold cogV
  go_enter Try.func115, Try.ntmps115
  go_wp2_with fail
  have hB : Below w.heap.size w ((w.alloc (.cells #[iv n, iv ws, v1, v2, v3, .slice A4 codes.length c4, .slice A5 gs.length c5] 118)).alloc (.cells #[iv k.m, iv k.a, iv k.s, iv n, iv u] 139)) := up_alloc (up_alloc up0 _) _
  have R := (Box.new (w := w) (t := 118) (cs := #[iv n, iv ws, v1, v2, v3, .slice A4 codes.length c4, .slice A5 gs.length c5]) rfl).alloc (.cells #[iv k.m, iv k.a, iv k.s, iv n, iv u] 139)
  have C := Box.new (w := w.alloc (.cells #[iv n, iv ws, v1, v2, v3, .slice A4 codes.length c4, .slice A5 gs.length c5] 118)) (g := w.heap.size + 1) (t := 139) (cs := #[iv k.m, iv k.a, iv k.s, iv n, iv u]) (by simp)
  refine (every_agree _ gs (.pointer (some ⟨w.heap.size + 1, 0, none⟩)) (.pointer (some ⟨w.heap.size, 0, none⟩)) (fun g => codeI n k g.p g.a == codes.getD g.a.toNat 0) _ (HG.out.kept hB) (fun x hx w1 hb => agrees1_any _ _ n u ws k v1 v2 v3 _ A4 c4 codes x w1 (C.kept hb) (R.kept hb) ((HC.out.kept hB).kept hb) hn HK.out ⟨(HI.out x hx).1, (HI.out x hx).2.1⟩ (HI.out x hx).2.2)).mono ?_
  rintro e w1 ⟨rfl, hb⟩
  go_wp2_with fail
  go_ret
  exact ⟨rfl, up_later hB hb⟩

/-- The key number i of the size n, in order. -/
def keyNo (n i : Nat) : Ky := ⟨(i / (n * n) : Nat) + 1, (i / n % n : Nat), (i % n : Nat)⟩
/-- The keys that agree, among the first i. -/
def agreeing (n : Nat) (p : Ky → Bool) (i : Nat) : List Ky := ((List.range i).map (keyNo n)).filter p
theorem agreeing_succ {n : Nat} {p : Ky → Bool} {i : Nat} : agreeing n p (i + 1) = agreeing n p i ++ if p (keyNo n i) then [keyNo n i] else [] := by
  unfold agreeing
  rw [List.range_succ, List.map_append, List.filter_append]
  congr 1
  simp only [List.map_cons, List.map_nil, List.filter_cons, List.filter_nil]
theorem agreeing_yes {n : Nat} {p : Ky → Bool} {i : Nat} (h : p (keyNo n i) = true) : agreeing n p (i + 1) = agreeing n p i ++ [keyNo n i] := by rw [agreeing_succ, if_pos h]
theorem agreeing_no {n : Nat} {p : Ky → Bool} {i : Nat} (h : p (keyNo n i) = false) : agreeing n p (i + 1) = agreeing n p i := by rw [agreeing_succ, if_neg (by simp [h]), List.append_nil]
theorem agreeing_len (n : Nat) (p : Ky → Bool) (i : Nat) : (agreeing n p i).length ≤ i := by
  unfold agreeing
  have := List.length_filter_le p ((List.range i).map (keyNo n))
  simpa using this
/-- Where the key with these numbers stands. -/
def at3 (n x y z : Nat) : Nat := x * (n * n) + y * n + z
theorem keyNo_at {n x y z : Nat} (hy : y < n) (hz : z < n) : keyNo n (at3 n x y z) = ⟨(x : Nat) + 1, (y : Nat), (z : Nat)⟩ := by
  have h1 : y * n + z < n * n := by
    have : (y + 1) * n ≤ n * n := Nat.mul_le_mul_right _ hy
    rw [Nat.add_mul] at this
    omega
  have e1 : (x * (n * n) + y * n + z) / (n * n) = x := by
    rw [Nat.add_assoc, Nat.mul_comm x, Nat.mul_add_div (by omega), Nat.div_eq_of_lt h1, Nat.add_zero]
  have e2 : (x * (n * n) + y * n + z) / n = x * n + y := by
    rw [show x * (n * n) + y * n + z = n * (x * n + y) + z by rw [Nat.mul_add, Nat.mul_comm n (x * n), Nat.mul_assoc, Nat.mul_comm n y], Nat.mul_add_div (by omega), Nat.div_eq_of_lt hz, Nat.add_zero]
  have e3 : (x * (n * n) + y * n + z) % n = z := by
    rw [show x * (n * n) + y * n + z = n * (x * n + y) + z by rw [Nat.mul_add, Nat.mul_comm n (x * n), Nat.mul_assoc, Nat.mul_comm n y], Nat.mul_add_mod, Nat.mod_eq_of_lt hz]
  have e4 : (x * n + y) % n = y := by rw [Nat.mul_comm, Nat.mul_add_mod, Nat.mod_eq_of_lt hy]
  unfold keyNo at3
  rw [e1, e2, e3, e4]
theorem at3_z {n x y z : Nat} : at3 n x y z + 1 = at3 n x y (z + 1) := by unfold at3; omega
theorem at3_y {n x y : Nat} : at3 n x y n = at3 n x (y + 1) 0 := by unfold at3; rw [Nat.add_mul]; omega
theorem at3_x {n x : Nat} : at3 n x n 0 = at3 n (x + 1) 0 0 := by unfold at3; rw [Nat.add_mul]; omega
theorem at3_lt {n x y z : Nat} (hx : x < n - 1) (hy : y < n) (hz : z < n) : at3 n x y z < at3 n (n - 1) 0 0 := by
  have h1 : y * n + z < n * n := by
    have : (y + 1) * n ≤ n * n := Nat.mul_le_mul_right _ hy
    rw [Nat.add_mul] at this
    omega
  have h2 : (x + 1) * (n * n) ≤ (n - 1) * (n * n) := Nat.mul_le_mul_right _ hx
  rw [Nat.add_mul] at h2
  unfold at3
  omega

end Go.Proofs.Ytkhfkmfofhnmdaa
