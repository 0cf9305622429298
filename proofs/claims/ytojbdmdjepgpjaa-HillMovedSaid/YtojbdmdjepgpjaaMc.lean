/-
  WALK of the reference's 'Fault': a land's error. Conditions: lists have at most 1000 elements.
-/
import Derived.Test.YtojbdmdjepgpjaaMa
namespace Go.Proofs.Ytojbdmdjepgpjaa
open Go.RowKit

theorem err3 {L : Ld} (h : exB L = true) : errI L = 3 := by simp [errI, h]
theorem err1 {L : Ld} (hx : exB L = false) (h : validB L = false) : errI L = 1 := by simp [errI, hx, h]
theorem err0 {L : Ld} (hx : exB L = false) (h : validB L = true) : errI L = 0 := by simp [errI, hx, h]
theorem ex_len {L : Ld} (h : 6 < L.st.length ∨ 6 < L.rg.length ∨ 4 < L.cs.length ∨ 12 < L.sn.length) : exB L = true := by
  simp only [exB, Bool.or_eq_true, decide_eq_true_eq]
  omega
theorem ex_case {L : Ld} {k : Nat} {x : List Cl} (hx : L.cs[k]? = some x) (h : 4 < x.length) : exB L = true := by
  have : L.cs.any (fun x => decide (4 < x.length)) = true := List.any_eq_true.2 ⟨x, List.mem_of_getElem? hx, by simp [h]⟩
  simp [exB, this]
theorem ex_no {L : Ld} (h : ¬ 6 < L.st.length ∧ ¬ 6 < L.rg.length ∧ ¬ 4 < L.cs.length ∧ ¬ 12 < L.sn.length) (hc : ∀ x ∈ L.cs, x.length ≤ 4) : exB L = false := by
  have : L.cs.any (fun x => decide (4 < x.length)) = false := by
    cases hh : L.cs.any (fun x => decide (4 < x.length)) with
    | false => rfl
    | true =>
      obtain ⟨x, hx, h1⟩ := List.any_eq_true.1 hh
      have := hc x hx
      have := of_decide_eq_true h1
      omega
  simp only [exB, this, Bool.or_false, Bool.or_eq_false_iff, decide_eq_false_iff_not]
  omega
theorem va_empty {L : Ld} (h : L.st.length = 0 ∨ L.cs.length = 0 ∨ L.sn.length = 0) : validB L = false := by
  rcases h with h | h | h <;> simp [validB, h]
theorem all_no {α : Type} {l : List α} {p : α → Bool} {x : α} (hx : x ∈ l) (hp : p x = false) : l.all p = false := by
  cases h : l.all p with
  | false => rfl
  | true => rw [List.all_eq_true.1 h x hx] at hp; cases hp
theorem va_st {L : Ld} {x : St} (hx : x ∈ L.st) (h : stB x = false) : validB L = false := by simp [validB, all_no hx h]
theorem va_rg {L : Ld} {x : Wl} (hx : x ∈ L.rg) (h : rgB x = false) : validB L = false := by simp [validB, all_no hx h]
theorem va_sn {L : Ld} {x : Sn} (hx : x ∈ L.sn) (h : snB x = false) : validB L = false := by simp [validB, all_no hx h]
theorem va_cl {L : Ld} {x : List Cl} {y : Cl} (hx : x ∈ L.cs) (hy : y ∈ x) (h : clB ((L.sn.length : Int) - 1) y = false) : validB L = false := by
  have : (L.cs.all fun x => x.all (clB ((L.sn.length : Int) - 1))) = false := all_no hx (all_no hy h)
  simp [validB, this]
theorem va_apart {L : Ld} {i j : Nat} {x y : St} (hi : L.st[i]? = some x) (hj : L.st[j]? = some y) (hij : i < j) (h1 : x.x = y.x) (h2 : x.y = y.y) : validB L = false := by
  have : apartB L.st = false := by
    unfold apartB
    rw [decide_eq_false_iff_not]
    intro hn
    have hp := List.pairwise_iff_getElem.1 hn i j (by have := (List.getElem?_eq_some_iff.1 hi).1; simpa using this) (by have := (List.getElem?_eq_some_iff.1 hj).1; simpa using this) hij
    apply hp
    have e1 := (List.getElem?_eq_some_iff.1 hi).2
    have e2 := (List.getElem?_eq_some_iff.1 hj).2
    simp only [List.getElem_map, e1, e2, h1, h2]
  simp [validB, this]
theorem va_yes {L : Ld} (h0 : L.st.length ≠ 0 ∧ L.cs.length ≠ 0 ∧ L.sn.length ≠ 0) (h1 : ∀ x ∈ L.st, stB x = true) (h2 : ∀ (i j : Nat) (x y : St), L.st[i]? = some x → L.st[j]? = some y → i < j → ¬ (x.x = y.x ∧ x.y = y.y)) (h3 : ∀ x ∈ L.rg, rgB x = true)
    (h4 : ∀ x ∈ L.cs, ∀ y ∈ x, clB ((L.sn.length : Int) - 1) y = true) (h5 : ∀ x ∈ L.sn, snB x = true) : validB L = true := by
  have ha : apartB L.st = true := by
    unfold apartB
    rw [decide_eq_true_eq]
    refine List.pairwise_iff_getElem.2 fun i j hi hj hij => ?_
    have hi' : i < L.st.length := by simpa using hi
    have hj' : j < L.st.length := by simpa using hj
    simp only [List.getElem_map]
    intro e
    exact h2 i j _ _ (List.getElem?_eq_getElem hi') (List.getElem?_eq_getElem hj') hij ⟨congrArg Prod.fst e, congrArg Prod.snd e⟩
  have hs := List.all_eq_true.2 h1
  have hr := List.all_eq_true.2 h3
  have hn := List.all_eq_true.2 h5
  have hc : (L.cs.all fun x => x.all (clB ((L.sn.length : Int) - 1))) = true := List.all_eq_true.2 fun x hx => List.all_eq_true.2 (h4 x hx)
  simp only [validB, ha, hs, hr, hn, hc, Bool.and_true, Bool.and_eq_true, decide_eq_true_eq]
  omega
/-- The reference's test of a cloud. -/
theorem cl_ref (L : Ld) (y : Cl) : clB ((L.sn.length : Int) - 1) y = (wlB y.w && inB 0 y.t y.f && !(decide ((L.sn.length : Int) ≤ y.t))) := by
  rw [Bool.eq_iff_iff]
  simp only [clB, inB, Bool.and_eq_true, decide_eq_true_eq, Bool.not_eq_true', decide_eq_false_iff_not]
  constructor
  · rintro ⟨⟨⟨h1, h2⟩, h3⟩, h4⟩
    exact ⟨⟨h1, by omega⟩, by omega⟩
  · rintro ⟨⟨h1, h2⟩, h3⟩
    exact ⟨⟨⟨h1, by omega⟩, by omega⟩, by omega⟩

end Go.Proofs.Ytojbdmdjepgpjaa

namespace Go.Proofs.Ytojbdmdjepgpjaa
open Go.RowKit

set_option maxRecDepth 100000 in
set_option maxHeartbeats 4000000 in
theorem Fault_any (v1 v2 v3 v4 : Value) (L : Ld) (c : List (Value × List Cl)) (w : World) (hL : LandAt w v1 v2 v3 v4 L c) :
    Calls Try.prog 51 #[.agg #[v1, v2, v3, v4]] w fun e w' => e = .returned (.int .i64 (errI L)) ∧ Below w.heap.size w w' := by
  have HL := Lib.hid hL
  obtain ⟨hn1, A1, cap1, rfl, _, _⟩ := hL.st.form
  obtain ⟨hn2, A2, cap2, rfl, _, _⟩ := hL.rg.form
  obtain ⟨hn3, A3, cap3, rfl, _, _⟩ := hL.cs.form
  obtain ⟨hn4, A4, cap4, rfl, _, _⟩ := hL.sn.form
  have hcl := cs_len hL.eq
  clear hL
  by_cases h1 : 6 < L.st.length
  · have n1 : (6 : Int) < (L.st.length : Int) := by omega
    have hr := err3 (L := L) (ex_len (by omega))
    have Hr := Lib.hid hr
    clear hr hcl
    go_enter Try.func51, Try.ntmps51
    go_wp2_with fail
    go_ret
    exact ⟨by rw [Hr.out]; rfl, up_alloc up0 _⟩
  have n1 : ¬ (6 : Int) < (L.st.length : Int) := by omega
  by_cases h2 : 6 < L.rg.length
  · have n2 : (6 : Int) < (L.rg.length : Int) := by omega
    have hr := err3 (L := L) (ex_len (by omega))
    have Hr := Lib.hid hr
    clear hr hcl
    go_enter Try.func51, Try.ntmps51
    go_wp2_with fail
    go_ret
    exact ⟨by rw [Hr.out]; rfl, up_alloc up0 _⟩
  have n2 : ¬ (6 : Int) < (L.rg.length : Int) := by omega
  by_cases h3 : 4 < c.length
  · have n3 : (4 : Int) < (c.length : Int) := by omega
    have hr := err3 (L := L) (ex_len (by omega))
    have Hr := Lib.hid hr
    clear hr hcl
    go_enter Try.func51, Try.ntmps51
    go_wp2_with fail
    go_ret
    exact ⟨by rw [Hr.out]; rfl, up_alloc up0 _⟩
  have n3 : ¬ (4 : Int) < (c.length : Int) := by omega
  by_cases h4 : 12 < L.sn.length
  · have n4 : (12 : Int) < (L.sn.length : Int) := by omega
    have hr := err3 (L := L) (ex_len (by omega))
    have Hr := Lib.hid hr
    clear hr hcl
    go_enter Try.func51, Try.ntmps51
    go_wp2_with fail
    go_ret
    exact ⟨by rw [Hr.out]; rfl, up_alloc up0 _⟩
  have n4 : ¬ (12 : Int) < (L.sn.length : Int) := by omega
  have Hcl := Lib.hid hcl
  clear hcl
  go_enter Try.func51, Try.ntmps51
  go_wp2_with fail
  have B1 := Box.new (w := w) (t := 27) (cs := #[.slice A1 L.st.length cap1, .slice A2 L.rg.length cap2, .slice A3 c.length cap3, .slice A4 L.sn.length cap4]) rfl
  have hB0 := up_alloc (up0 (w := w)) (.cells #[.slice A1 L.st.length cap1, .slice A2 L.rg.length cap2, .slice A3 c.length cap3, .slice A4 L.sn.length cap4] 27)
  have HB1 := Lib.hid B1
  have HB0 := Lib.hid hB0
  clear B1 hB0
  go_loopw [3] (fun q wr => ∃ k : Nat, k ≤ c.length ∧ q = .int .i64 k ∧ Hid (∀ (i : Nat) (x : List Cl), i < k → L.cs[i]? = some x → x.length ≤ 4) ∧ Hid (Box wr w.heap.size 27 #[.slice A1 L.st.length cap1, .slice A2 L.rg.length cap2, .slice A3 c.length cap3, .slice A4 L.sn.length cap4]) ∧ Hid (Below w.heap.size w wr)) (fun q _ => c.length - (intOf q).toNat)
  case atStart => exact ⟨0, by omega, rfl, by intro i x hi; omega, HB1.out, HB0.out⟩
  case round =>
    clear HB1 HB0
    obtain ⟨k, hk, rfl, hall, hbx, hB⟩ := hrel
    have B1 := hbx.out
    have c1 := fun i => B1.cell i
    have k0 : (0 : Int) ≤ (k : Int) := by omega
    by_cases hlt : k < c.length
    · obtain ⟨x, hx⟩ : ∃ x, c[k]? = some x := ⟨_, List.getElem?_eq_getElem hlt⟩
      have HR := Lib.hid (HL.out.cs.kept hB.out)
      obtain ⟨b, off, rfl, hb, hcell⟩ := HR.out.at rfl hx
      have q0 : wr.cell? ⟨b, off + k, none⟩ = some x.1 := by simpa using hcell 0 _ rfl
      obtain ⟨_, Ak, capk, hv, _, _⟩ := (HL.out.each x (List.mem_of_getElem? hx)).form
      rw [hv] at q0
      have k1 : (k : Int) < (c.length : Int) := by omega
      have hLk : L.cs[k]? = some x.2 := by rw [← HL.out.eq]; simp [hx]
      have HLk := Lib.hid hLk
      clear hx hv hcell hLk
      by_cases h7 : x.2.length ≤ 4
      · have d7 : ¬ (4 : Int) < (x.2.length : Int) := by omega
        go_wp2_with fail
        refine ⟨⟨k + 1, by omega, by go_num, fun i y hi hy => ?_, hbx.out, hB.out⟩, by simp [intOf]; omega⟩
        by_cases hik : i = k
        · subst hik
          have := HLk.out
          rw [this] at hy
          injection hy with hy
          subst hy
          exact h7
        · exact hall.out i y (by omega) hy
      · have d7 : (4 : Int) < (x.2.length : Int) := by omega
        have hr := err3 (L := L) (ex_case HLk.out (by omega))
        have Hr := Lib.hid hr
        clear hr
        go_wp2_with fail
        go_ret
        exact ⟨by rw [Hr.out]; rfl, hB.out⟩
    · obtain rfl : k = c.length := by omega
      have hcl := Hcl.out
      have hex : exB L = false := ex_no (by omega) fun x hx => by
        obtain ⟨i, hi, rfl⟩ := List.getElem_of_mem hx
        exact hall.out i _ (by omega) (List.getElem?_eq_getElem hi)
      have Hex := Lib.hid hex
      clear hex hall
      by_cases z1 : L.st.length = 0
      · have m1 : ((L.st.length : Int) == 0) = true := by rw [beq_iff_eq]; omega
        have hr := err1 (L := L) Hex.out (va_empty (by omega))
        have Hr := Lib.hid hr
        clear hr hcl
        go_wp2_with fail
        go_ret
        exact ⟨by rw [Hr.out]; rfl, hB.out⟩
      have m1 : ((L.st.length : Int) == 0) = false := by rw [beq_eq_false_iff_ne]; omega
      by_cases z2 : c.length = 0
      · have m2 : ((c.length : Int) == 0) = true := by rw [beq_iff_eq]; omega
        have hr := err1 (L := L) Hex.out (va_empty (by omega))
        have Hr := Lib.hid hr
        clear hr hcl
        go_wp2_with fail
        go_ret
        exact ⟨by rw [Hr.out]; rfl, hB.out⟩
      have m2 : ((c.length : Int) == 0) = false := by rw [beq_eq_false_iff_ne]; omega
      by_cases z3 : L.sn.length = 0
      · have m3 : ((L.sn.length : Int) == 0) = true := by rw [beq_iff_eq]; omega
        have hr := err1 (L := L) Hex.out (va_empty (by omega))
        have Hr := Lib.hid hr
        clear hr hcl
        go_wp2_with fail
        go_ret
        exact ⟨by rw [Hr.out]; rfl, hB.out⟩
      have m3 : ((L.sn.length : Int) == 0) = false := by rw [beq_eq_false_iff_ne]; omega
      clear hcl
      go_wp2_with fail
      go_loopw [4] (fun q wr => ∃ k : Nat, k ≤ L.st.length ∧ q = .int .i64 k ∧ Hid (∀ x ∈ L.st.take k, stB x = true) ∧ Hid (∀ (i j : Nat) (x y : St), L.st[i]? = some x → L.st[j]? = some y → i < j → j < k → ¬ (x.x = y.x ∧ x.y = y.y)) ∧ Hid (Box wr w.heap.size 27 #[.slice A1 L.st.length cap1, .slice A2 L.rg.length cap2, .slice A3 c.length cap3, .slice A4 L.sn.length cap4]) ∧ Hid (Below w.heap.size w wr)) (fun q _ => L.st.length - (intOf q).toNat)
      case atStart => exact ⟨0, by omega, rfl, by simp [Hid], by intro i j x y _ _ _ hj; omega, hbx.out, hB.out⟩
      case round =>
        clear c1 B1 hbx hB
        obtain ⟨k, hk, rfl, hst, hne, hbx, hB⟩ := hrel
        have B1 := hbx.out
        have c1 := fun i => B1.cell i
        have k0 : (0 : Int) ≤ (k : Int) := by omega
        by_cases hlt : k < L.st.length
        · obtain ⟨x, hx⟩ : ∃ x, L.st[k]? = some x := ⟨_, List.getElem?_eq_getElem hlt⟩
          have HR := Lib.hid (HL.out.st.kept hB.out)
          obtain ⟨b, off, rfl, hb, hcell⟩ := HR.out.at rfl hx
          have q0 : wr.cell? ⟨b, off + k * 4, none⟩ = some (.int .i64 x.x) := hcell 0 _ rfl
          have q1 : wr.cell? ⟨b, off + k * 4 + 1, none⟩ = some (.int .i64 x.y) := hcell 1 _ rfl
          have q2 : wr.cell? ⟨b, off + k * 4 + 2, none⟩ = some (.int .i64 x.z) := hcell 2 _ rfl
          have q3 : wr.cell? ⟨b, off + k * 4 + 3, none⟩ = some (.int .i64 x.m) := hcell 3 _ rfl
          have k1 : (k : Int) < (L.st.length : Int) := by omega
          have Hx := Lib.hid hx
          have hB2 := up_alloc hB.out (.cells #[iv x.x, iv x.y, iv x.z, iv x.m] 74)
          have HB2 := Lib.hid hB2
          clear hx hcell hB2
          cases p1 : inB 0 100 x.x with
          | false =>
            have hr := err1 (L := L) Hex.out (va_st (List.mem_of_getElem? Hx.out) (by simp [stB, p1]))
            have Hr := Lib.hid hr
            clear hr
            go_wp2_with (go_at_call 32; refine (In_any _ _ _ _).mono ?_; rintro e wz ⟨rfl, rfl⟩)
            go_ret
            exact ⟨by rw [Hr.out]; rfl, HB2.out⟩
          | true =>
            cases p2 : inB 0 100 x.y with
            | false =>
              have hr := err1 (L := L) Hex.out (va_st (List.mem_of_getElem? Hx.out) (by simp [stB, p2]))
              have Hr := Lib.hid hr
              clear hr
              go_wp2_with (go_at_call 32; refine (In_any _ _ _ _).mono ?_; rintro e wz ⟨rfl, rfl⟩)
              go_ret
              exact ⟨by rw [Hr.out]; rfl, HB2.out⟩
            | true =>
              cases p3 : inB 0 1000 x.z with
              | false =>
                have hr := err1 (L := L) Hex.out (va_st (List.mem_of_getElem? Hx.out) (by simp [stB, p3]))
                have Hr := Lib.hid hr
                clear hr
                go_wp2_with (go_at_call 32; refine (In_any _ _ _ _).mono ?_; rintro e wz ⟨rfl, rfl⟩)
                go_ret
                exact ⟨by rw [Hr.out]; rfl, HB2.out⟩
              | true =>
                cases p4 : inB 1 2 x.m with
                | false =>
                  have hr := err1 (L := L) Hex.out (va_st (List.mem_of_getElem? Hx.out) (by simp [stB, p4]))
                  have Hr := Lib.hid hr
                  clear hr
                  go_wp2_with (go_at_call 32; refine (In_any _ _ _ _).mono ?_; rintro e wz ⟨rfl, rfl⟩)
                  go_ret
                  exact ⟨by rw [Hr.out]; rfl, HB2.out⟩
                | true =>
                  have hsb : stB x = true := by simp [stB, p1, p2, p3, p4]
                  have Hsb := Lib.hid hsb
                  clear hsb
                  go_wp2_with (go_at_call 32; refine (In_any _ _ _ _).mono ?_; rintro e wz ⟨rfl, rfl⟩)
                  have B5 := Box.new (w := wr) (t := 74) (cs := #[iv x.x, iv x.y, iv x.z, iv x.m]) rfl
                  have HB5 := Lib.hid B5
                  have HBx2 := Lib.hid (hbx.out.alloc (.cells #[iv x.x, iv x.y, iv x.z, iv x.m] 74))
                  have HRA := Lib.hid (HR.out.kept (up_alloc up0 (.cells #[iv x.x, iv x.y, iv x.z, iv x.m] 74)))
                  clear B5 c1 B1 q0 q1 q2 q3 p1 p2 p3 p4
                  go_loopw [6] (fun q wi => ∃ j : Nat, j ≤ k ∧ q = .int .i64 j ∧ Hid (∀ (i : Nat) (y : St), i < j → L.st[i]? = some y → ¬ (y.x = x.x ∧ y.y = x.y)) ∧ Hid (Box wi wr.heap.size 74 #[iv x.x, iv x.y, iv x.z, iv x.m]) ∧ Hid (Box wi w.heap.size 27 #[.slice (some ⟨b, off, none⟩) L.st.length cap1, .slice A2 L.rg.length cap2, .slice A3 c.length cap3, .slice A4 L.sn.length cap4]) ∧ Hid (RowsAt wi (.slice (some ⟨b, off, none⟩) L.st.length cap1) 4 St.cells L.st) ∧ Hid (Below w.heap.size w wi)) (fun q _ => k - (intOf q).toNat)
                  case atStart => exact ⟨0, by omega, rfl, by intro i y hi; omega, HB5.out, HBx2.out, HRA.out, HB2.out⟩
                  case round =>
                    clear HB5 HBx2 HRA HB2
                    obtain ⟨j, hj, rfl, hjn, hb5, hbi, hri, hBi⟩ := hrel
                    have b5 := hb5.out
                    have bi := hbi.out
                    have j0 : (0 : Int) ≤ (j : Int) := by omega
                    by_cases hjk : j < k
                    · obtain ⟨y, hy⟩ : ∃ y, L.st[j]? = some y := ⟨_, List.getElem?_eq_getElem (by omega)⟩
                      have j1 : (j : Int) < (L.st.length : Int) := by omega
                      have j2 : (j : Int) < (k : Int) := by omega
                      have Hy := Lib.hid hy
                      clear hy
                      by_cases e1 : y.x = x.x
                      · by_cases e2 : y.y = x.y
                        · have d1 : (y.x == x.x) = true := by rw [beq_iff_eq]; exact e1
                          have d2 : (y.y == x.y) = true := by rw [beq_iff_eq]; exact e2
                          have hr := err1 (L := L) Hex.out (va_apart Hy.out Hx.out hjk e1 e2)
                          have Hr := Lib.hid hr
                          clear hr e1 e2
                          go_wp2_with fail
                          apply wp_region_by 20 [(Fact.eq _), (Fact.eq _), (Fact.eq _), (Fact.eq _), (Fact.eq _), (Fact.eq _), (Fact.eq _), (Fact.eq _), (Fact.eq _), (Fact.eq _), (Fact.eq _), (Fact.eq _), (Fact.eq _), (Fact.eq _), (Fact.eq _), (Fact.eq _), (Fact.eq _), (Fact.eq _), (Fact.eq _), (Fact.eq _)]
                          case hm => kernel_rfl
                          case hB => kernel_rfl
                          case hA => (intro vs; simp only [List.take_succ_cons, List.take_zero, putAll, if_true, Act.put, List.setIfInBounds_toArray, List.set_cons_zero, List.set_cons_succ]; exact rfl)
                          case hstep =>
                            intro vs
                            refine And.intro (fun w hw hd => ?_) ?_
                            · refine ite_yes rfl ?_
                              simp only [Gives]
                              go_simp
                              exact ⟨Below.refl _ _, rfl, fun h => by cases h⟩
                            refine And.intro (fun w hw hd => ?_) ?_
                            · have d0 := hd 0 (by decide) rfl
                              change vs 0 = _ at d0
                              refine ite_yes rfl ?_
                              have c_b5 := fun i => (b5.kept hw).cell i
                              have c_bi := fun i => (bi.kept hw).cell i
                              simp only [Gives]
                              go_simp
                              exact ⟨Below.refl _ _, rfl, fun h => by cases h⟩
                            refine And.intro (fun w hw hd => ?_) ?_
                            · refine ite_yes rfl ?_
                              simp only [Gives]
                              go_simp
                              exact ⟨Below.refl _ _, rfl, fun h => by cases h⟩
                            refine And.intro (fun w hw hd => ?_) ?_
                            · have d1 := hd 1 (by decide) rfl
                              change vs 1 = _ at d1
                              have d2 := hd 2 (by decide) rfl
                              change vs 2 = _ at d2
                              refine ite_yes rfl ?_
                              simp only [Gives]
                              go_simp
                              exact ⟨Below.refl _ _, rfl, fun h => by cases h⟩
                            refine And.intro (fun w hw hd => ?_) ?_
                            · have d3 := hd 3 (by decide) rfl
                              change vs 3 = _ at d3
                              refine ite_yes rfl ?_
                              simp only [Gives]
                              go_simp
                              exact ⟨Below.refl _ _, rfl, fun h => by cases h⟩
                            refine And.intro (fun w hw hd => ?_) ?_
                            · have d4 := hd 4 (by decide) rfl
                              change vs 4 = _ at d4
                              refine ite_yes rfl ?_
                              have c_b5 := fun i => (b5.kept hw).cell i
                              have c_bi := fun i => (bi.kept hw).cell i
                              have q0 : w.cell? ⟨b, off + j * 4, none⟩ = some (.int .i64 y.x) := (hri.out.kept hw).cellAt Hy.out (j := 0) rfl
                              have q1 : w.cell? ⟨b, off + j * 4 + 1, none⟩ = some (.int .i64 y.y) := (hri.out.kept hw).cellAt Hy.out (j := 1) rfl
                              simp only [Gives]
                              go_simp
                              exact ⟨Below.refl _ _, rfl, fun h => by cases h⟩
                            refine And.intro (fun w hw hd => ?_) ?_
                            · refine ite_yes rfl ?_
                              simp only [Gives]
                              go_simp
                              exact ⟨Below.refl _ _, rfl, fun h => by cases h⟩
                            refine And.intro (fun w hw hd => ?_) ?_
                            · have d6 := hd 6 (by decide) rfl
                              change vs 6 = _ at d6
                              refine ite_yes rfl ?_
                              have c_b5 := fun i => (b5.kept hw).cell i
                              have c_bi := fun i => (bi.kept hw).cell i
                              have q0 : w.cell? ⟨b, off + j * 4, none⟩ = some (.int .i64 y.x) := (hri.out.kept hw).cellAt Hy.out (j := 0) rfl
                              have q1 : w.cell? ⟨b, off + j * 4 + 1, none⟩ = some (.int .i64 y.y) := (hri.out.kept hw).cellAt Hy.out (j := 1) rfl
                              simp only [Gives]
                              go_simp
                              exact ⟨Below.refl _ _, rfl, fun h => by cases h⟩
                            refine And.intro (fun w hw hd => ?_) ?_
                            · have d5 := hd 5 (by decide) rfl
                              change vs 5 = _ at d5
                              have d7 := hd 7 (by decide) rfl
                              change vs 7 = _ at d7
                              refine ite_yes rfl ?_
                              simp only [Gives]
                              go_simp
                              exact ⟨Below.refl _ _, rfl, fun h => by cases h⟩
                            refine And.intro (fun w hw hd => ?_) ?_
                            · have d8 := hd 8 (by decide) rfl
                              change vs 8 = _ at d8
                              refine ite_yes rfl ?_
                              simp only [Gives]
                              go_simp
                              exact ⟨Below.refl _ _, rfl, fun h => by cases h⟩
                            refine And.intro (fun w hw hd => ?_) ?_
                            · have d9 := hd 9 (by decide) rfl
                              change vs 9 = _ at d9
                              refine ite_yes (by simp [Region.wanted, yielded, d9]) ?_
                              simp only [Gives]
                              go_simp
                              exact ⟨Below.refl _ _, rfl, fun h => by cases h⟩
                            refine And.intro (fun w hw hd => ?_) ?_
                            · have d10 := hd 10 (by decide) rfl
                              change vs 10 = _ at d10
                              have d9 := hd 9 (by decide) rfl
                              change vs 9 = _ at d9
                              refine ite_yes (by simp [Region.wanted, yielded, d9]) ?_
                              have c_b5 := fun i => (b5.kept hw).cell i
                              have c_bi := fun i => (bi.kept hw).cell i
                              simp only [Gives]
                              go_simp
                              exact ⟨Below.refl _ _, rfl, fun h => by cases h⟩
                            refine And.intro (fun w hw hd => ?_) ?_
                            · have d9 := hd 9 (by decide) rfl
                              change vs 9 = _ at d9
                              refine ite_yes (by simp [Region.wanted, yielded, d9]) ?_
                              simp only [Gives]
                              go_simp
                              exact ⟨Below.refl _ _, rfl, fun h => by cases h⟩
                            refine And.intro (fun w hw hd => ?_) ?_
                            · have d11 := hd 11 (by decide) rfl
                              change vs 11 = _ at d11
                              have d12 := hd 12 (by decide) rfl
                              change vs 12 = _ at d12
                              have d9 := hd 9 (by decide) rfl
                              change vs 9 = _ at d9
                              refine ite_yes (by simp [Region.wanted, yielded, d9]) ?_
                              simp only [Gives]
                              go_simp
                              exact ⟨Below.refl _ _, rfl, fun h => by cases h⟩
                            refine And.intro (fun w hw hd => ?_) ?_
                            · have d13 := hd 13 (by decide) rfl
                              change vs 13 = _ at d13
                              have d9 := hd 9 (by decide) rfl
                              change vs 9 = _ at d9
                              refine ite_yes (by simp [Region.wanted, yielded, d9]) ?_
                              simp only [Gives]
                              go_simp
                              exact ⟨Below.refl _ _, rfl, fun h => by cases h⟩
                            refine And.intro (fun w hw hd => ?_) ?_
                            · have d14 := hd 14 (by decide) rfl
                              change vs 14 = _ at d14
                              have d9 := hd 9 (by decide) rfl
                              change vs 9 = _ at d9
                              refine ite_yes (by simp [Region.wanted, yielded, d9]) ?_
                              have c_b5 := fun i => (b5.kept hw).cell i
                              have c_bi := fun i => (bi.kept hw).cell i
                              have q0 : w.cell? ⟨b, off + j * 4, none⟩ = some (.int .i64 y.x) := (hri.out.kept hw).cellAt Hy.out (j := 0) rfl
                              have q1 : w.cell? ⟨b, off + j * 4 + 1, none⟩ = some (.int .i64 y.y) := (hri.out.kept hw).cellAt Hy.out (j := 1) rfl
                              simp only [Gives]
                              go_simp
                              exact ⟨Below.refl _ _, rfl, fun h => by cases h⟩
                            refine And.intro (fun w hw hd => ?_) ?_
                            · have d9 := hd 9 (by decide) rfl
                              change vs 9 = _ at d9
                              refine ite_yes (by simp [Region.wanted, yielded, d9]) ?_
                              simp only [Gives]
                              go_simp
                              exact ⟨Below.refl _ _, rfl, fun h => by cases h⟩
                            refine And.intro (fun w hw hd => ?_) ?_
                            · have d16 := hd 16 (by decide) rfl
                              change vs 16 = _ at d16
                              have d9 := hd 9 (by decide) rfl
                              change vs 9 = _ at d9
                              refine ite_yes (by simp [Region.wanted, yielded, d9]) ?_
                              have c_b5 := fun i => (b5.kept hw).cell i
                              have c_bi := fun i => (bi.kept hw).cell i
                              have q0 : w.cell? ⟨b, off + j * 4, none⟩ = some (.int .i64 y.x) := (hri.out.kept hw).cellAt Hy.out (j := 0) rfl
                              have q1 : w.cell? ⟨b, off + j * 4 + 1, none⟩ = some (.int .i64 y.y) := (hri.out.kept hw).cellAt Hy.out (j := 1) rfl
                              simp only [Gives]
                              go_simp
                              exact ⟨Below.refl _ _, rfl, fun h => by cases h⟩
                            refine And.intro (fun w hw hd => ?_) ?_
                            · have d15 := hd 15 (by decide) rfl
                              change vs 15 = _ at d15
                              have d17 := hd 17 (by decide) rfl
                              change vs 17 = _ at d17
                              have d9 := hd 9 (by decide) rfl
                              change vs 9 = _ at d9
                              refine ite_yes (by simp [Region.wanted, yielded, d9]) ?_
                              simp only [Gives]
                              go_simp
                              exact ⟨Below.refl _ _, rfl, fun h => by cases h⟩
                            refine And.intro (fun w hw hd => ?_) ?_
                            · have d9 := hd 9 (by decide) rfl
                              change vs 9 = _ at d9
                              have d18 := hd 18 (by decide) rfl
                              change vs 18 = _ at d18
                              refine ite_yes rfl ?_
                              simp only [Gives]
                              go_simp
                              exact ⟨Below.refl _ _, rfl, fun h => by cases h⟩
                            exact trivial
                          intro vs wt hw hd hne hlo
                          have d0 := hd 0 (by decide)
                          change vs 0 = _ at d0
                          have d1 := hd 1 (by decide)
                          change vs 1 = _ at d1
                          have d2 := hd 2 (by decide)
                          change vs 2 = _ at d2
                          have d3 := hd 3 (by decide)
                          change vs 3 = _ at d3
                          have d4 := hd 4 (by decide)
                          change vs 4 = _ at d4
                          have d5 := hd 5 (by decide)
                          change vs 5 = _ at d5
                          have d6 := hd 6 (by decide)
                          change vs 6 = _ at d6
                          have d7 := hd 7 (by decide)
                          change vs 7 = _ at d7
                          have d8 := hd 8 (by decide)
                          change vs 8 = _ at d8
                          have d9 := hd 9 (by decide)
                          change vs 9 = _ at d9
                          have d10 := hd 10 (by decide)
                          change vs 10 = _ at d10
                          have d11 := hd 11 (by decide)
                          change vs 11 = _ at d11
                          have d12 := hd 12 (by decide)
                          change vs 12 = _ at d12
                          have d13 := hd 13 (by decide)
                          change vs 13 = _ at d13
                          have d14 := hd 14 (by decide)
                          change vs 14 = _ at d14
                          have d15 := hd 15 (by decide)
                          change vs 15 = _ at d15
                          have d16 := hd 16 (by decide)
                          change vs 16 = _ at d16
                          have d17 := hd 17 (by decide)
                          change vs 17 = _ at d17
                          have d18 := hd 18 (by decide)
                          change vs 18 = _ at d18
                          have d19 := hd 19 (by decide)
                          change vs 19 = _ at d19
                          simp only [d0, d1, d2, d3, d4, d5, d6, d7, d8, d9, d10, d11, d12, d13, d14, d15, d16, d17, d18, d19, List.drop_succ_cons, List.drop_nil]
                          have b5 := b5.kept hw
                          have bi := bi.kept hw
                          have c_b5 := fun i => b5.cell i
                          have f_b5 := fun i => b5.free i
                          have c_bi := fun i => bi.cell i
                          have f_bi := fun i => bi.free i
                          clear hd hne hlo d0 d1 d2 d3 d4 d5 d6 d7 d8 d9 d10 d11 d12 d13 d14 d15 d16 d17 d18 d19
                          go_wp2_with fail
                          go_ret
                          exact ⟨by rw [Hr.out]; rfl, up_later hBi.out hw⟩
                        · have d1 : (y.x == x.x) = true := by rw [beq_iff_eq]; exact e1
                          have d2 : (y.y == x.y) = false := by rw [beq_eq_false_iff_ne]; exact e2
                          have He := Lib.hid e2
                          clear e1 e2
                          go_wp2_with fail
                          apply wp_region_by 20 [(Fact.eq _), (Fact.eq _), (Fact.eq _), (Fact.eq _), (Fact.eq _), (Fact.eq _), (Fact.eq _), (Fact.eq _), (Fact.eq _), (Fact.eq _), (Fact.eq _), (Fact.eq _), (Fact.eq _), (Fact.eq _), (Fact.eq _), (Fact.eq _), (Fact.eq _), (Fact.eq _), (Fact.eq _), (Fact.eq _)]
                          case hm => kernel_rfl
                          case hB => kernel_rfl
                          case hA => (intro vs; simp only [List.take_succ_cons, List.take_zero, putAll, if_true, Act.put, List.setIfInBounds_toArray, List.set_cons_zero, List.set_cons_succ]; exact rfl)
                          case hstep =>
                            intro vs
                            refine And.intro (fun w hw hd => ?_) ?_
                            · refine ite_yes rfl ?_
                              simp only [Gives]
                              go_simp
                              exact ⟨Below.refl _ _, rfl, fun h => by cases h⟩
                            refine And.intro (fun w hw hd => ?_) ?_
                            · have d0 := hd 0 (by decide) rfl
                              change vs 0 = _ at d0
                              refine ite_yes rfl ?_
                              have c_b5 := fun i => (b5.kept hw).cell i
                              have c_bi := fun i => (bi.kept hw).cell i
                              simp only [Gives]
                              go_simp
                              exact ⟨Below.refl _ _, rfl, fun h => by cases h⟩
                            refine And.intro (fun w hw hd => ?_) ?_
                            · refine ite_yes rfl ?_
                              simp only [Gives]
                              go_simp
                              exact ⟨Below.refl _ _, rfl, fun h => by cases h⟩
                            refine And.intro (fun w hw hd => ?_) ?_
                            · have d1 := hd 1 (by decide) rfl
                              change vs 1 = _ at d1
                              have d2 := hd 2 (by decide) rfl
                              change vs 2 = _ at d2
                              refine ite_yes rfl ?_
                              simp only [Gives]
                              go_simp
                              exact ⟨Below.refl _ _, rfl, fun h => by cases h⟩
                            refine And.intro (fun w hw hd => ?_) ?_
                            · have d3 := hd 3 (by decide) rfl
                              change vs 3 = _ at d3
                              refine ite_yes rfl ?_
                              simp only [Gives]
                              go_simp
                              exact ⟨Below.refl _ _, rfl, fun h => by cases h⟩
                            refine And.intro (fun w hw hd => ?_) ?_
                            · have d4 := hd 4 (by decide) rfl
                              change vs 4 = _ at d4
                              refine ite_yes rfl ?_
                              have c_b5 := fun i => (b5.kept hw).cell i
                              have c_bi := fun i => (bi.kept hw).cell i
                              have q0 : w.cell? ⟨b, off + j * 4, none⟩ = some (.int .i64 y.x) := (hri.out.kept hw).cellAt Hy.out (j := 0) rfl
                              have q1 : w.cell? ⟨b, off + j * 4 + 1, none⟩ = some (.int .i64 y.y) := (hri.out.kept hw).cellAt Hy.out (j := 1) rfl
                              simp only [Gives]
                              go_simp
                              exact ⟨Below.refl _ _, rfl, fun h => by cases h⟩
                            refine And.intro (fun w hw hd => ?_) ?_
                            · refine ite_yes rfl ?_
                              simp only [Gives]
                              go_simp
                              exact ⟨Below.refl _ _, rfl, fun h => by cases h⟩
                            refine And.intro (fun w hw hd => ?_) ?_
                            · have d6 := hd 6 (by decide) rfl
                              change vs 6 = _ at d6
                              refine ite_yes rfl ?_
                              have c_b5 := fun i => (b5.kept hw).cell i
                              have c_bi := fun i => (bi.kept hw).cell i
                              have q0 : w.cell? ⟨b, off + j * 4, none⟩ = some (.int .i64 y.x) := (hri.out.kept hw).cellAt Hy.out (j := 0) rfl
                              have q1 : w.cell? ⟨b, off + j * 4 + 1, none⟩ = some (.int .i64 y.y) := (hri.out.kept hw).cellAt Hy.out (j := 1) rfl
                              simp only [Gives]
                              go_simp
                              exact ⟨Below.refl _ _, rfl, fun h => by cases h⟩
                            refine And.intro (fun w hw hd => ?_) ?_
                            · have d5 := hd 5 (by decide) rfl
                              change vs 5 = _ at d5
                              have d7 := hd 7 (by decide) rfl
                              change vs 7 = _ at d7
                              refine ite_yes rfl ?_
                              simp only [Gives]
                              go_simp
                              exact ⟨Below.refl _ _, rfl, fun h => by cases h⟩
                            refine And.intro (fun w hw hd => ?_) ?_
                            · have d8 := hd 8 (by decide) rfl
                              change vs 8 = _ at d8
                              refine ite_yes rfl ?_
                              simp only [Gives]
                              go_simp
                              exact ⟨Below.refl _ _, rfl, fun h => by cases h⟩
                            refine And.intro (fun w hw hd => ?_) ?_
                            · have d9 := hd 9 (by decide) rfl
                              change vs 9 = _ at d9
                              refine ite_yes (by simp [Region.wanted, yielded, d9]) ?_
                              simp only [Gives]
                              go_simp
                              exact ⟨Below.refl _ _, rfl, fun h => by cases h⟩
                            refine And.intro (fun w hw hd => ?_) ?_
                            · have d10 := hd 10 (by decide) rfl
                              change vs 10 = _ at d10
                              have d9 := hd 9 (by decide) rfl
                              change vs 9 = _ at d9
                              refine ite_yes (by simp [Region.wanted, yielded, d9]) ?_
                              have c_b5 := fun i => (b5.kept hw).cell i
                              have c_bi := fun i => (bi.kept hw).cell i
                              simp only [Gives]
                              go_simp
                              exact ⟨Below.refl _ _, rfl, fun h => by cases h⟩
                            refine And.intro (fun w hw hd => ?_) ?_
                            · have d9 := hd 9 (by decide) rfl
                              change vs 9 = _ at d9
                              refine ite_yes (by simp [Region.wanted, yielded, d9]) ?_
                              simp only [Gives]
                              go_simp
                              exact ⟨Below.refl _ _, rfl, fun h => by cases h⟩
                            refine And.intro (fun w hw hd => ?_) ?_
                            · have d11 := hd 11 (by decide) rfl
                              change vs 11 = _ at d11
                              have d12 := hd 12 (by decide) rfl
                              change vs 12 = _ at d12
                              have d9 := hd 9 (by decide) rfl
                              change vs 9 = _ at d9
                              refine ite_yes (by simp [Region.wanted, yielded, d9]) ?_
                              simp only [Gives]
                              go_simp
                              exact ⟨Below.refl _ _, rfl, fun h => by cases h⟩
                            refine And.intro (fun w hw hd => ?_) ?_
                            · have d13 := hd 13 (by decide) rfl
                              change vs 13 = _ at d13
                              have d9 := hd 9 (by decide) rfl
                              change vs 9 = _ at d9
                              refine ite_yes (by simp [Region.wanted, yielded, d9]) ?_
                              simp only [Gives]
                              go_simp
                              exact ⟨Below.refl _ _, rfl, fun h => by cases h⟩
                            refine And.intro (fun w hw hd => ?_) ?_
                            · have d14 := hd 14 (by decide) rfl
                              change vs 14 = _ at d14
                              have d9 := hd 9 (by decide) rfl
                              change vs 9 = _ at d9
                              refine ite_yes (by simp [Region.wanted, yielded, d9]) ?_
                              have c_b5 := fun i => (b5.kept hw).cell i
                              have c_bi := fun i => (bi.kept hw).cell i
                              have q0 : w.cell? ⟨b, off + j * 4, none⟩ = some (.int .i64 y.x) := (hri.out.kept hw).cellAt Hy.out (j := 0) rfl
                              have q1 : w.cell? ⟨b, off + j * 4 + 1, none⟩ = some (.int .i64 y.y) := (hri.out.kept hw).cellAt Hy.out (j := 1) rfl
                              simp only [Gives]
                              go_simp
                              exact ⟨Below.refl _ _, rfl, fun h => by cases h⟩
                            refine And.intro (fun w hw hd => ?_) ?_
                            · have d9 := hd 9 (by decide) rfl
                              change vs 9 = _ at d9
                              refine ite_yes (by simp [Region.wanted, yielded, d9]) ?_
                              simp only [Gives]
                              go_simp
                              exact ⟨Below.refl _ _, rfl, fun h => by cases h⟩
                            refine And.intro (fun w hw hd => ?_) ?_
                            · have d16 := hd 16 (by decide) rfl
                              change vs 16 = _ at d16
                              have d9 := hd 9 (by decide) rfl
                              change vs 9 = _ at d9
                              refine ite_yes (by simp [Region.wanted, yielded, d9]) ?_
                              have c_b5 := fun i => (b5.kept hw).cell i
                              have c_bi := fun i => (bi.kept hw).cell i
                              have q0 : w.cell? ⟨b, off + j * 4, none⟩ = some (.int .i64 y.x) := (hri.out.kept hw).cellAt Hy.out (j := 0) rfl
                              have q1 : w.cell? ⟨b, off + j * 4 + 1, none⟩ = some (.int .i64 y.y) := (hri.out.kept hw).cellAt Hy.out (j := 1) rfl
                              simp only [Gives]
                              go_simp
                              exact ⟨Below.refl _ _, rfl, fun h => by cases h⟩
                            refine And.intro (fun w hw hd => ?_) ?_
                            · have d15 := hd 15 (by decide) rfl
                              change vs 15 = _ at d15
                              have d17 := hd 17 (by decide) rfl
                              change vs 17 = _ at d17
                              have d9 := hd 9 (by decide) rfl
                              change vs 9 = _ at d9
                              refine ite_yes (by simp [Region.wanted, yielded, d9]) ?_
                              simp only [Gives]
                              go_simp
                              exact ⟨Below.refl _ _, rfl, fun h => by cases h⟩
                            refine And.intro (fun w hw hd => ?_) ?_
                            · have d9 := hd 9 (by decide) rfl
                              change vs 9 = _ at d9
                              have d18 := hd 18 (by decide) rfl
                              change vs 18 = _ at d18
                              refine ite_yes rfl ?_
                              simp only [Gives]
                              go_simp
                              exact ⟨Below.refl _ _, rfl, fun h => by cases h⟩
                            exact trivial
                          intro vs wt hw hd hne hlo
                          have d0 := hd 0 (by decide)
                          change vs 0 = _ at d0
                          have d1 := hd 1 (by decide)
                          change vs 1 = _ at d1
                          have d2 := hd 2 (by decide)
                          change vs 2 = _ at d2
                          have d3 := hd 3 (by decide)
                          change vs 3 = _ at d3
                          have d4 := hd 4 (by decide)
                          change vs 4 = _ at d4
                          have d5 := hd 5 (by decide)
                          change vs 5 = _ at d5
                          have d6 := hd 6 (by decide)
                          change vs 6 = _ at d6
                          have d7 := hd 7 (by decide)
                          change vs 7 = _ at d7
                          have d8 := hd 8 (by decide)
                          change vs 8 = _ at d8
                          have d9 := hd 9 (by decide)
                          change vs 9 = _ at d9
                          have d10 := hd 10 (by decide)
                          change vs 10 = _ at d10
                          have d11 := hd 11 (by decide)
                          change vs 11 = _ at d11
                          have d12 := hd 12 (by decide)
                          change vs 12 = _ at d12
                          have d13 := hd 13 (by decide)
                          change vs 13 = _ at d13
                          have d14 := hd 14 (by decide)
                          change vs 14 = _ at d14
                          have d15 := hd 15 (by decide)
                          change vs 15 = _ at d15
                          have d16 := hd 16 (by decide)
                          change vs 16 = _ at d16
                          have d17 := hd 17 (by decide)
                          change vs 17 = _ at d17
                          have d18 := hd 18 (by decide)
                          change vs 18 = _ at d18
                          have d19 := hd 19 (by decide)
                          change vs 19 = _ at d19
                          simp only [d0, d1, d2, d3, d4, d5, d6, d7, d8, d9, d10, d11, d12, d13, d14, d15, d16, d17, d18, d19, List.drop_succ_cons, List.drop_nil]
                          have b5 := b5.kept hw
                          have bi := bi.kept hw
                          have c_b5 := fun i => b5.cell i
                          have f_b5 := fun i => b5.free i
                          have c_bi := fun i => bi.cell i
                          have f_bi := fun i => bi.free i
                          clear hd hne hlo d0 d1 d2 d3 d4 d5 d6 d7 d8 d9 d10 d11 d12 d13 d14 d15 d16 d17 d18 d19
                          go_wp2_with fail
                          refine ⟨⟨j + 1, by omega, by go_num, fun i z hi hz => ?_, hb5.out.kept hw, hbi.out.kept hw, hri.out.kept hw, up_later hBi.out hw⟩, by simp [intOf]; omega⟩
                          by_cases hij : i = j
                          · subst hij
                            rw [Hy.out] at hz
                            injection hz with hz
                            subst hz
                            exact fun h => He.out h.2
                          · exact hjn.out i z (by omega) hz
                      · have d1 : (y.x == x.x) = false := by rw [beq_eq_false_iff_ne]; exact e1
                        have He := Lib.hid e1
                        clear e1
                        go_wp2_with fail
                        apply wp_region_by 20 [(Fact.eq _), (Fact.eq _), (Fact.eq _), (Fact.eq _), (Fact.eq _), (Fact.eq _), (Fact.eq _), (Fact.eq _), (Fact.eq _), (Fact.eq _), (Fact.eq _), (Fact.eq _), (Fact.eq _), (Fact.eq _), (Fact.eq _), (Fact.eq _), (Fact.eq _), (Fact.eq _), (Fact.eq _), (Fact.eq _)]
                        case hm => kernel_rfl
                        case hB => kernel_rfl
                        case hA => (intro vs; simp only [List.take_succ_cons, List.take_zero, putAll, if_true, Act.put, List.setIfInBounds_toArray, List.set_cons_zero, List.set_cons_succ]; exact rfl)
                        case hstep =>
                          intro vs
                          refine And.intro (fun w hw hd => ?_) ?_
                          · refine ite_yes rfl ?_
                            simp only [Gives]
                            go_simp
                            exact ⟨Below.refl _ _, rfl, fun h => by cases h⟩
                          refine And.intro (fun w hw hd => ?_) ?_
                          · have d0 := hd 0 (by decide) rfl
                            change vs 0 = _ at d0
                            refine ite_yes rfl ?_
                            have c_b5 := fun i => (b5.kept hw).cell i
                            have c_bi := fun i => (bi.kept hw).cell i
                            simp only [Gives]
                            go_simp
                            exact ⟨Below.refl _ _, rfl, fun h => by cases h⟩
                          refine And.intro (fun w hw hd => ?_) ?_
                          · refine ite_yes rfl ?_
                            simp only [Gives]
                            go_simp
                            exact ⟨Below.refl _ _, rfl, fun h => by cases h⟩
                          refine And.intro (fun w hw hd => ?_) ?_
                          · have d1 := hd 1 (by decide) rfl
                            change vs 1 = _ at d1
                            have d2 := hd 2 (by decide) rfl
                            change vs 2 = _ at d2
                            refine ite_yes rfl ?_
                            simp only [Gives]
                            go_simp
                            exact ⟨Below.refl _ _, rfl, fun h => by cases h⟩
                          refine And.intro (fun w hw hd => ?_) ?_
                          · have d3 := hd 3 (by decide) rfl
                            change vs 3 = _ at d3
                            refine ite_yes rfl ?_
                            simp only [Gives]
                            go_simp
                            exact ⟨Below.refl _ _, rfl, fun h => by cases h⟩
                          refine And.intro (fun w hw hd => ?_) ?_
                          · have d4 := hd 4 (by decide) rfl
                            change vs 4 = _ at d4
                            refine ite_yes rfl ?_
                            have c_b5 := fun i => (b5.kept hw).cell i
                            have c_bi := fun i => (bi.kept hw).cell i
                            have q0 : w.cell? ⟨b, off + j * 4, none⟩ = some (.int .i64 y.x) := (hri.out.kept hw).cellAt Hy.out (j := 0) rfl
                            have q1 : w.cell? ⟨b, off + j * 4 + 1, none⟩ = some (.int .i64 y.y) := (hri.out.kept hw).cellAt Hy.out (j := 1) rfl
                            simp only [Gives]
                            go_simp
                            exact ⟨Below.refl _ _, rfl, fun h => by cases h⟩
                          refine And.intro (fun w hw hd => ?_) ?_
                          · refine ite_yes rfl ?_
                            simp only [Gives]
                            go_simp
                            exact ⟨Below.refl _ _, rfl, fun h => by cases h⟩
                          refine And.intro (fun w hw hd => ?_) ?_
                          · have d6 := hd 6 (by decide) rfl
                            change vs 6 = _ at d6
                            refine ite_yes rfl ?_
                            have c_b5 := fun i => (b5.kept hw).cell i
                            have c_bi := fun i => (bi.kept hw).cell i
                            have q0 : w.cell? ⟨b, off + j * 4, none⟩ = some (.int .i64 y.x) := (hri.out.kept hw).cellAt Hy.out (j := 0) rfl
                            have q1 : w.cell? ⟨b, off + j * 4 + 1, none⟩ = some (.int .i64 y.y) := (hri.out.kept hw).cellAt Hy.out (j := 1) rfl
                            simp only [Gives]
                            go_simp
                            exact ⟨Below.refl _ _, rfl, fun h => by cases h⟩
                          refine And.intro (fun w hw hd => ?_) ?_
                          · have d5 := hd 5 (by decide) rfl
                            change vs 5 = _ at d5
                            have d7 := hd 7 (by decide) rfl
                            change vs 7 = _ at d7
                            refine ite_yes rfl ?_
                            simp only [Gives]
                            go_simp
                            exact ⟨Below.refl _ _, rfl, fun h => by cases h⟩
                          refine And.intro (fun w hw hd => ?_) ?_
                          · have d8 := hd 8 (by decide) rfl
                            change vs 8 = _ at d8
                            refine ite_yes rfl ?_
                            simp only [Gives]
                            go_simp
                            exact ⟨Below.refl _ _, rfl, fun h => by cases h⟩
                          refine And.intro (fun w hw hd => ?_) ?_
                          · have d9 := hd 9 (by decide) rfl
                            change vs 9 = _ at d9
                            refine ite_no (by simp [Region.wanted, yielded, d9]) ?_
                            exact ⟨rfl, rfl⟩
                          refine And.intro (fun w hw hd => ?_) ?_
                          · have d10 := hd 10 (by decide) rfl
                            change vs 10 = _ at d10
                            have d9 := hd 9 (by decide) rfl
                            change vs 9 = _ at d9
                            refine ite_no (by simp [Region.wanted, yielded, d9]) ?_
                            exact ⟨rfl, rfl⟩
                          refine And.intro (fun w hw hd => ?_) ?_
                          · have d9 := hd 9 (by decide) rfl
                            change vs 9 = _ at d9
                            refine ite_no (by simp [Region.wanted, yielded, d9]) ?_
                            exact ⟨rfl, rfl⟩
                          refine And.intro (fun w hw hd => ?_) ?_
                          · have d11 := hd 11 (by decide) rfl
                            change vs 11 = _ at d11
                            have d12 := hd 12 (by decide) rfl
                            change vs 12 = _ at d12
                            have d9 := hd 9 (by decide) rfl
                            change vs 9 = _ at d9
                            refine ite_no (by simp [Region.wanted, yielded, d9]) ?_
                            exact ⟨rfl, rfl⟩
                          refine And.intro (fun w hw hd => ?_) ?_
                          · have d13 := hd 13 (by decide) rfl
                            change vs 13 = _ at d13
                            have d9 := hd 9 (by decide) rfl
                            change vs 9 = _ at d9
                            refine ite_no (by simp [Region.wanted, yielded, d9]) ?_
                            exact ⟨rfl, rfl⟩
                          refine And.intro (fun w hw hd => ?_) ?_
                          · have d14 := hd 14 (by decide) rfl
                            change vs 14 = _ at d14
                            have d9 := hd 9 (by decide) rfl
                            change vs 9 = _ at d9
                            refine ite_no (by simp [Region.wanted, yielded, d9]) ?_
                            exact ⟨rfl, rfl⟩
                          refine And.intro (fun w hw hd => ?_) ?_
                          · have d9 := hd 9 (by decide) rfl
                            change vs 9 = _ at d9
                            refine ite_no (by simp [Region.wanted, yielded, d9]) ?_
                            exact ⟨rfl, rfl⟩
                          refine And.intro (fun w hw hd => ?_) ?_
                          · have d16 := hd 16 (by decide) rfl
                            change vs 16 = _ at d16
                            have d9 := hd 9 (by decide) rfl
                            change vs 9 = _ at d9
                            refine ite_no (by simp [Region.wanted, yielded, d9]) ?_
                            exact ⟨rfl, rfl⟩
                          refine And.intro (fun w hw hd => ?_) ?_
                          · have d15 := hd 15 (by decide) rfl
                            change vs 15 = _ at d15
                            have d17 := hd 17 (by decide) rfl
                            change vs 17 = _ at d17
                            have d9 := hd 9 (by decide) rfl
                            change vs 9 = _ at d9
                            refine ite_no (by simp [Region.wanted, yielded, d9]) ?_
                            exact ⟨rfl, rfl⟩
                          refine And.intro (fun w hw hd => ?_) ?_
                          · have d9 := hd 9 (by decide) rfl
                            change vs 9 = _ at d9
                            have d18 := hd 18 (by decide) rfl
                            change vs 18 = _ at d18
                            refine ite_yes rfl ?_
                            simp only [Gives]
                            go_simp
                            exact ⟨Below.refl _ _, rfl, fun h => by cases h⟩
                          exact trivial
                        intro vs wt hw hd hne hlo
                        have d0 := hd 0 (by decide)
                        change vs 0 = _ at d0
                        have d1 := hd 1 (by decide)
                        change vs 1 = _ at d1
                        have d2 := hd 2 (by decide)
                        change vs 2 = _ at d2
                        have d3 := hd 3 (by decide)
                        change vs 3 = _ at d3
                        have d4 := hd 4 (by decide)
                        change vs 4 = _ at d4
                        have d5 := hd 5 (by decide)
                        change vs 5 = _ at d5
                        have d6 := hd 6 (by decide)
                        change vs 6 = _ at d6
                        have d7 := hd 7 (by decide)
                        change vs 7 = _ at d7
                        have d8 := hd 8 (by decide)
                        change vs 8 = _ at d8
                        have d9 := hd 9 (by decide)
                        change vs 9 = _ at d9
                        have d10 := hd 10 (by decide)
                        change vs 10 = _ at d10
                        have d11 := hd 11 (by decide)
                        change vs 11 = _ at d11
                        have d12 := hd 12 (by decide)
                        change vs 12 = _ at d12
                        have d13 := hd 13 (by decide)
                        change vs 13 = _ at d13
                        have d14 := hd 14 (by decide)
                        change vs 14 = _ at d14
                        have d15 := hd 15 (by decide)
                        change vs 15 = _ at d15
                        have d16 := hd 16 (by decide)
                        change vs 16 = _ at d16
                        have d17 := hd 17 (by decide)
                        change vs 17 = _ at d17
                        have d18 := hd 18 (by decide)
                        change vs 18 = _ at d18
                        have d19 := hd 19 (by decide)
                        change vs 19 = _ at d19
                        simp only [d0, d1, d2, d3, d4, d5, d6, d7, d8, d9, d10, d11, d12, d13, d14, d15, d16, d17, d18, d19, List.drop_succ_cons, List.drop_nil]
                        have b5 := b5.kept hw
                        have bi := bi.kept hw
                        have c_b5 := fun i => b5.cell i
                        have f_b5 := fun i => b5.free i
                        have c_bi := fun i => bi.cell i
                        have f_bi := fun i => bi.free i
                        clear hd hne hlo d0 d1 d2 d3 d4 d5 d6 d7 d8 d9 d10 d11 d12 d13 d14 d15 d16 d17 d18 d19
                        go_wp2_with fail
                        refine ⟨⟨j + 1, by omega, by go_num, fun i z hi hz => ?_, hb5.out.kept hw, hbi.out.kept hw, hri.out.kept hw, up_later hBi.out hw⟩, by simp [intOf]; omega⟩
                        by_cases hij : i = j
                        · subst hij
                          rw [Hy.out] at hz
                          injection hz with hz
                          subst hz
                          exact fun h => He.out h.1
                        · exact hjn.out i z (by omega) hz
                    · obtain rfl : j = k := by omega
                      go_wp2_with fail
                      refine ⟨⟨j + 1, by omega, by go_num, fun z hz => ?_, fun i t y z hi ht hit htk => ?_, hbi.out, hBi.out⟩, by simp [intOf]; omega⟩
                      · rw [List.take_add_one, Hx.out] at hz
                        rcases List.mem_append.1 hz with hz | hz
                        · exact hst.out z hz
                        · have : z = x := by simpa using hz
                          rw [this]
                          exact Hsb.out
                      · by_cases htj : t = j
                        · subst htj
                          rw [Hx.out] at ht
                          injection ht with ht
                          subst ht
                          exact hjn.out i y hit hi
                        · exact hne.out i t y z hi ht hit (by omega)
        · obtain rfl : k = L.st.length := by omega
          have hst1 : ∀ x ∈ L.st, stB x = true := fun x hx => hst.out x (by rw [List.take_length]; exact hx)
          have Hst := Lib.hid hst1
          have Hne := Lib.hid hne.out
          clear hst1 hst hne
          go_wp2_with fail
          clear c1 B1
          go_loopw [7] (fun q wr => ∃ k : Nat, k ≤ L.rg.length ∧ q = .int .i64 k ∧ Hid (∀ x ∈ L.rg.take k, rgB x = true) ∧ Hid (Box wr w.heap.size 27 #[.slice A1 L.st.length cap1, .slice A2 L.rg.length cap2, .slice A3 c.length cap3, .slice A4 L.sn.length cap4]) ∧ Hid (Below w.heap.size w wr)) (fun q _ => L.rg.length - (intOf q).toNat)
          case atStart => exact ⟨0, by omega, rfl, by simp [Hid], hbx.out, hB.out⟩
          case round =>
            clear hbx hB
            obtain ⟨k, hk, rfl, hok, hbx, hB⟩ := hrel
            have B1 := hbx.out
            have c1 := fun i => B1.cell i
            have k0 : (0 : Int) ≤ (k : Int) := by omega
            by_cases hlt : k < L.rg.length
            · obtain ⟨x, hx⟩ : ∃ x, L.rg[k]? = some x := ⟨_, List.getElem?_eq_getElem hlt⟩
              have HR := Lib.hid (HL.out.rg.kept hB.out)
              obtain ⟨b, off, rfl, hb, hcell⟩ := HR.out.at rfl hx
              have q0 : wr.cell? ⟨b, off + k * 6, none⟩ = some (.int .i64 x.x1) := hcell 0 _ rfl
              have q1 : wr.cell? ⟨b, off + k * 6 + 1, none⟩ = some (.int .i64 x.y1) := hcell 1 _ rfl
              have q2 : wr.cell? ⟨b, off + k * 6 + 2, none⟩ = some (.int .i64 x.x2) := hcell 2 _ rfl
              have q3 : wr.cell? ⟨b, off + k * 6 + 3, none⟩ = some (.int .i64 x.y2) := hcell 3 _ rfl
              have q4 : wr.cell? ⟨b, off + k * 6 + 4, none⟩ = some (.int .i64 x.b) := hcell 4 _ rfl
              have q5 : wr.cell? ⟨b, off + k * 6 + 5, none⟩ = some (.int .i64 x.t) := hcell 5 _ rfl
              have k1 : (k : Int) < (L.rg.length : Int) := by omega
              have Hx := Lib.hid hx
              clear hx hcell
              cases p1 : wlB x with
              | false =>
                have hr := err1 (L := L) Hex.out (va_rg (List.mem_of_getElem? Hx.out) (by simp [rgB, p1]))
                have Hr := Lib.hid hr
                clear hr
                go_wp2_with fail
                refine (RIsWall_any x _).mono ?_
                rintro e w1 ⟨rfl, hb1⟩
                have hB1 := Lib.hid (up_later hB.out hb1)
                rw [p1]
                go_wp2_with fail
                go_ret
                exact ⟨by rw [Hr.out]; rfl, hB1.out⟩
              | true =>
                have Hp1 := Lib.hid p1
                by_cases p2 : x.b = 0
                · have d2 : (x.b != 0) = false := by simp [p2]
                  have Hp2 := Lib.hid p2
                  clear p2
                  go_wp2_with fail
                  refine (RIsWall_any x _).mono ?_
                  rintro e w1 ⟨rfl, hb1⟩
                  have hB1 := Lib.hid (up_later hB.out hb1)
                  rw [p1]
                  have B2 := B1.kept hb1
                  have c2 := fun i => B2.cell i
                  have q6 : w1.cell? ⟨b, off + k * 6 + 4, none⟩ = some (.int .i64 x.b) := (HR.out.kept hb1).cellAt Hx.out (j := 4) rfl
                  go_wp2_with fail
                  refine ⟨⟨k + 1, by omega, by go_num, fun z hz => ?_, hbx.out.kept hb1, hB1.out⟩, by simp [intOf]; omega⟩
                  rw [List.take_add_one, Hx.out] at hz
                  rcases List.mem_append.1 hz with hz | hz
                  · exact hok.out z hz
                  · have : z = x := by simpa using hz
                    rw [this]
                    simp [rgB, Hp1.out, Hp2.out]
                · have d2 : (x.b != 0) = true := by simp [p2]
                  have hr := err1 (L := L) Hex.out (va_rg (List.mem_of_getElem? Hx.out) (by simp [rgB, p2]))
                  have Hr := Lib.hid hr
                  clear hr p2
                  go_wp2_with fail
                  refine (RIsWall_any x _).mono ?_
                  rintro e w1 ⟨rfl, hb1⟩
                  have hB1 := Lib.hid (up_later hB.out hb1)
                  rw [p1]
                  have B2 := B1.kept hb1
                  have c2 := fun i => B2.cell i
                  have q6 : w1.cell? ⟨b, off + k * 6 + 4, none⟩ = some (.int .i64 x.b) := (HR.out.kept hb1).cellAt Hx.out (j := 4) rfl
                  go_wp2_with fail
                  go_ret
                  exact ⟨by rw [Hr.out]; rfl, hB1.out⟩
            · obtain rfl : k = L.rg.length := by omega
              have hrg1 : ∀ x ∈ L.rg, rgB x = true := fun x hx => hok.out x (by rw [List.take_length]; exact hx)
              have Hrg := Lib.hid hrg1
              clear hrg1 hok
              go_wp2_with fail
              clear c1 B1
              go_loopw [8] (fun q wr => ∃ k : Nat, k ≤ c.length ∧ q = .int .i64 k ∧ Hid (∀ (i : Nat) (x : List Cl), i < k → L.cs[i]? = some x → ∀ y ∈ x, clB ((L.sn.length : Int) - 1) y = true) ∧ Hid (Box wr w.heap.size 27 #[.slice A1 L.st.length cap1, .slice A2 L.rg.length cap2, .slice A3 c.length cap3, .slice A4 L.sn.length cap4]) ∧ Hid (Below w.heap.size w wr)) (fun q _ => c.length - (intOf q).toNat)
              case atStart => exact ⟨0, by omega, rfl, by intro i x hi; omega, hbx.out, hB.out⟩
              case round =>
                clear hbx hB
                obtain ⟨k, hk, rfl, hok, hbx, hB⟩ := hrel
                have B1 := hbx.out
                have c1 := fun i => B1.cell i
                have k0 : (0 : Int) ≤ (k : Int) := by omega
                by_cases hlt : k < c.length
                · obtain ⟨x, hx⟩ : ∃ x, c[k]? = some x := ⟨_, List.getElem?_eq_getElem hlt⟩
                  have HR := Lib.hid (HL.out.cs.kept hB.out)
                  have HE := Lib.hid ((HL.out.each x (List.mem_of_getElem? hx)).kept hB.out)
                  have hLk : L.cs[k]? = some x.2 := by rw [← HL.out.eq]; simp [hx]
                  have HLk := Lib.hid hLk
                  obtain ⟨b, off, rfl, hb, hcell⟩ := HR.out.at rfl hx
                  obtain ⟨hxn, Ak, capk, hv, _, _⟩ := HE.out.form
                  have k1 : (k : Int) < (c.length : Int) := by omega
                  have Hx := Lib.hid hx
                  have Hv := Lib.hid hv
                  clear hx hLk hcell hv
                  go_wp2_with fail
                  go_loopw [9] (fun q wi => ∃ j : Nat, j ≤ x.2.length ∧ q = .int .i64 j ∧ Hid (∀ y ∈ x.2.take j, clB ((L.sn.length : Int) - 1) y = true) ∧ Hid (Box wi w.heap.size 27 #[.slice A1 L.st.length cap1, .slice A2 L.rg.length cap2, .slice (some ⟨b, off, none⟩) c.length cap3, .slice A4 L.sn.length cap4]) ∧ Hid (RowsAt wi (.slice (some ⟨b, off, none⟩) c.length cap3) 1 (fun x => [x.1]) c) ∧ Hid (RowsAt wi x.1 8 Cl.cells x.2) ∧ Hid (Below w.heap.size w wi)) (fun q _ => x.2.length - (intOf q).toNat)
                  case atStart => exact ⟨0, by omega, rfl, by simp [Hid], hbx.out, HR.out, HE.out, hB.out⟩
                  case round =>
                    clear hbx hB HR HE c1 B1
                    obtain ⟨j, hj, rfl, hoj, hbi, hri, hei, hBi⟩ := hrel
                    have B1 := hbi.out
                    have c1 := fun i => B1.cell i
                    have j0 : (0 : Int) ≤ (j : Int) := by omega
                    have q0 : wr.cell? ⟨b, off + k, none⟩ = some (.slice Ak x.2.length capk) := by rw [← Hv.out]; simpa using hri.out.cellAt Hx.out (j := 0) rfl
                    by_cases hjl : j < x.2.length
                    · obtain ⟨y, hy⟩ : ∃ y, x.2[j]? = some y := ⟨_, List.getElem?_eq_getElem hjl⟩
                      obtain ⟨b9, o9, hA9, hb9, hc9⟩ := hei.out.at Hv.out hy
                      subst hA9
                      have r0 : wr.cell? ⟨b9, o9 + j * 8, none⟩ = some (.int .i64 y.w.x1) := hc9 0 _ rfl
                      have r1 : wr.cell? ⟨b9, o9 + j * 8 + 1, none⟩ = some (.int .i64 y.w.y1) := hc9 1 _ rfl
                      have r2 : wr.cell? ⟨b9, o9 + j * 8 + 2, none⟩ = some (.int .i64 y.w.x2) := hc9 2 _ rfl
                      have r3 : wr.cell? ⟨b9, o9 + j * 8 + 3, none⟩ = some (.int .i64 y.w.y2) := hc9 3 _ rfl
                      have r4 : wr.cell? ⟨b9, o9 + j * 8 + 4, none⟩ = some (.int .i64 y.w.b) := hc9 4 _ rfl
                      have r5 : wr.cell? ⟨b9, o9 + j * 8 + 5, none⟩ = some (.int .i64 y.w.t) := hc9 5 _ rfl
                      have r6 : wr.cell? ⟨b9, o9 + j * 8 + 6, none⟩ = some (.int .i64 y.f) := hc9 6 _ rfl
                      have r7 : wr.cell? ⟨b9, o9 + j * 8 + 7, none⟩ = some (.int .i64 y.t) := hc9 7 _ rfl
                      have j1 : (j : Int) < (x.2.length : Int) := by omega
                      have Hy := Lib.hid hy
                      have hym : x.2 ∈ L.cs := List.mem_of_getElem? HLk.out
                      have Hym := Lib.hid hym
                      clear hy hc9 hym
                      cases p1 : wlB y.w with
                      | false =>
                        have hr := err1 (L := L) Hex.out (va_cl Hym.out (List.mem_of_getElem? Hy.out) (by rw [cl_ref]; simp [p1]))
                        have Hr := Lib.hid hr
                        clear hr
                        go_wp2_with fail
                        refine (RIsWall_any y.w _).mono ?_
                        rintro e w1 ⟨rfl, hb1⟩
                        have hu1 := up_later (up_alloc (up0 (w := wr)) (.cells #[iv y.w.x1, iv y.w.y1, iv y.w.x2, iv y.w.y2, iv y.w.b, iv y.w.t, iv y.f, iv y.t] 82)) hb1
                        have hB1 := Lib.hid (up_later hBi.out hu1)
                        rw [p1]
                        go_wp2_with fail
                        go_ret
                        exact ⟨by rw [Hr.out]; rfl, hB1.out⟩
                      | true =>
                        have Hp1 := Lib.hid p1
                        cases p2 : inB 0 y.t y.f with
                        | false =>
                          have hr := err1 (L := L) Hex.out (va_cl Hym.out (List.mem_of_getElem? Hy.out) (by rw [cl_ref]; simp [p2]))
                          have Hr := Lib.hid hr
                          clear hr
                          go_wp2_with fail
                          refine (RIsWall_any y.w _).mono ?_
                          rintro e w1 ⟨rfl, hb1⟩
                          have hu1 := up_later (up_alloc (up0 (w := wr)) (.cells #[iv y.w.x1, iv y.w.y1, iv y.w.x2, iv y.w.y2, iv y.w.b, iv y.w.t, iv y.f, iv y.t] 82)) hb1
                          have hB1 := Lib.hid (up_later hBi.out hu1)
                          rw [p1]
                          have B2 := B1.kept hu1
                          have c2 := fun i => B2.cell i
                          have B3 := Box.later hb1 (Box.new (w := wr) (t := 82) (cs := #[iv y.w.x1, iv y.w.y1, iv y.w.x2, iv y.w.y2, iv y.w.b, iv y.w.t, iv y.f, iv y.t]) rfl)
                          have c3 := fun i => B3.cell i
                          go_wp2_with (go_at_call 32; refine (In_any _ _ _ _).mono ?_; rintro e wz ⟨rfl, rfl⟩)
                          go_ret
                          exact ⟨by rw [Hr.out]; rfl, hB1.out⟩
                        | true =>
                          have Hp2 := Lib.hid p2
                          by_cases p3 : (L.sn.length : Int) ≤ y.t
                          · have Hp3 := Lib.hid p3
                            have hr := err1 (L := L) Hex.out (va_cl Hym.out (List.mem_of_getElem? Hy.out) (by rw [cl_ref]; simp [p3]))
                            have Hr := Lib.hid hr
                            clear hr
                            go_wp2_with fail
                            refine (RIsWall_any y.w _).mono ?_
                            rintro e w1 ⟨rfl, hb1⟩
                            have hu1 := up_later (up_alloc (up0 (w := wr)) (.cells #[iv y.w.x1, iv y.w.y1, iv y.w.x2, iv y.w.y2, iv y.w.b, iv y.w.t, iv y.f, iv y.t] 82)) hb1
                            have hB1 := Lib.hid (up_later hBi.out hu1)
                            rw [p1]
                            have B2 := B1.kept hu1
                            have c2 := fun i => B2.cell i
                            have B3 := Box.later hb1 (Box.new (w := wr) (t := 82) (cs := #[iv y.w.x1, iv y.w.y1, iv y.w.x2, iv y.w.y2, iv y.w.b, iv y.w.t, iv y.f, iv y.t]) rfl)
                            have c3 := fun i => B3.cell i
                            go_wp2_with (go_at_call 32; refine (In_any _ _ _ _).mono ?_; rintro e wz ⟨rfl, rfl⟩)
                            go_ret
                            exact ⟨by rw [Hr.out]; rfl, hB1.out⟩
                          · have Hp3 := Lib.hid p3
                            go_wp2_with fail
                            refine (RIsWall_any y.w _).mono ?_
                            rintro e w1 ⟨rfl, hb1⟩
                            have hu1 := up_later (up_alloc (up0 (w := wr)) (.cells #[iv y.w.x1, iv y.w.y1, iv y.w.x2, iv y.w.y2, iv y.w.b, iv y.w.t, iv y.f, iv y.t] 82)) hb1
                            have hB1 := Lib.hid (up_later hBi.out hu1)
                            rw [p1]
                            have B2 := B1.kept hu1
                            have c2 := fun i => B2.cell i
                            have B3 := Box.later hb1 (Box.new (w := wr) (t := 82) (cs := #[iv y.w.x1, iv y.w.y1, iv y.w.x2, iv y.w.y2, iv y.w.b, iv y.w.t, iv y.f, iv y.t]) rfl)
                            have c3 := fun i => B3.cell i
                            go_wp2_with (go_at_call 32; refine (In_any _ _ _ _).mono ?_; rintro e wz ⟨rfl, rfl⟩)
                            refine ⟨⟨j + 1, by omega, by go_num, fun z hz => ?_, hbi.out.kept hu1, hri.out.kept hu1, hei.out.kept hu1, hB1.out⟩, by simp [intOf]; omega⟩
                            rw [List.take_add_one, Hy.out] at hz
                            rcases List.mem_append.1 hz with hz | hz
                            · exact hoj.out z hz
                            · have : z = y := by simpa using hz
                              rw [this, cl_ref]
                              have h3 := Hp3.out
                              simp only [Hp1.out, Hp2.out, Bool.true_and, Bool.not_eq_true', decide_eq_false_iff_not]
                              omega
                    · obtain rfl : j = x.2.length := by omega
                      go_wp2_with fail
                      refine ⟨⟨k + 1, by omega, by go_num, fun i z hi hz y hy => ?_, hbi.out, hBi.out⟩, by simp [intOf]; omega⟩
                      by_cases hik : i = k
                      · subst hik
                        rw [HLk.out] at hz
                        injection hz with hz
                        subst hz
                        exact hoj.out y (by rw [List.take_length]; exact hy)
                      · exact hok.out i z (by omega) hz y hy
                · obtain rfl : k = c.length := by omega
                  have hcs1 : ∀ x ∈ L.cs, ∀ y ∈ x, clB ((L.sn.length : Int) - 1) y = true := fun x hx => by
                    obtain ⟨i, hi, rfl⟩ := List.getElem_of_mem hx
                    exact hok.out i _ (by have := Hcl.out; omega) (List.getElem?_eq_getElem hi)
                  have Hcs := Lib.hid hcs1
                  clear hcs1 hok
                  go_wp2_with fail
                  clear c1 B1
                  go_loopw [11] (fun q wr => ∃ k : Nat, k ≤ L.sn.length ∧ q = .int .i64 k ∧ Hid (∀ x ∈ L.sn.take k, snB x = true) ∧ Hid (Box wr w.heap.size 27 #[.slice A1 L.st.length cap1, .slice A2 L.rg.length cap2, .slice A3 c.length cap3, .slice A4 L.sn.length cap4]) ∧ Hid (Below w.heap.size w wr)) (fun q _ => L.sn.length - (intOf q).toNat)
                  case atStart => exact ⟨0, by omega, rfl, by simp [Hid], hbx.out, hB.out⟩
                  case round =>
                    clear hbx hB
                    obtain ⟨k, hk, rfl, hok, hbx, hB⟩ := hrel
                    have B1 := hbx.out
                    have c1 := fun i => B1.cell i
                    have k0 : (0 : Int) ≤ (k : Int) := by omega
                    by_cases hlt : k < L.sn.length
                    · obtain ⟨x, hx⟩ : ∃ x, L.sn[k]? = some x := ⟨_, List.getElem?_eq_getElem hlt⟩
                      have HR := Lib.hid (HL.out.sn.kept hB.out)
                      obtain ⟨b, off, rfl, hb, hcell⟩ := HR.out.at rfl hx
                      have q0 : wr.cell? ⟨b, off + k * 3, none⟩ = some (.int .i64 x.e) := hcell 0 _ rfl
                      have q1 : wr.cell? ⟨b, off + k * 3 + 1, none⟩ = some (.int .i64 x.n) := hcell 1 _ rfl
                      have q2 : wr.cell? ⟨b, off + k * 3 + 2, none⟩ = some (.int .i64 x.u) := hcell 2 _ rfl
                      have k1 : (k : Int) < (L.sn.length : Int) := by omega
                      have Hx := Lib.hid hx
                      have hu := up_alloc (up0 (w := wr)) (.cells #[iv x.e, iv x.n, iv x.u] 60)
                      have HU := Lib.hid hu
                      clear hx hcell hu
                      cases p1 : inB (-100) 100 x.e with
                      | false =>
                        have hr := err1 (L := L) Hex.out (va_sn (List.mem_of_getElem? Hx.out) (by simp [snB, p1]))
                        have Hr := Lib.hid hr
                        clear hr
                        go_wp2_with (go_at_call 32; refine (In_any _ _ _ _).mono ?_; rintro e wz ⟨rfl, rfl⟩)
                        go_ret
                        exact ⟨by rw [Hr.out]; rfl, up_later hB.out HU.out⟩
                      | true =>
                        cases p2 : inB (-100) 100 x.n with
                        | false =>
                          have hr := err1 (L := L) Hex.out (va_sn (List.mem_of_getElem? Hx.out) (by simp [snB, p2]))
                          have Hr := Lib.hid hr
                          clear hr
                          go_wp2_with (go_at_call 32; refine (In_any _ _ _ _).mono ?_; rintro e wz ⟨rfl, rfl⟩)
                          go_ret
                          exact ⟨by rw [Hr.out]; rfl, up_later hB.out HU.out⟩
                        | true =>
                          cases p3 : inB (-100) 100 x.u with
                          | false =>
                            have hr := err1 (L := L) Hex.out (va_sn (List.mem_of_getElem? Hx.out) (by simp [snB, p3]))
                            have Hr := Lib.hid hr
                            clear hr
                            go_wp2_with (go_at_call 32; refine (In_any _ _ _ _).mono ?_; rintro e wz ⟨rfl, rfl⟩)
                            go_ret
                            exact ⟨by rw [Hr.out]; rfl, up_later hB.out HU.out⟩
                          | true =>
                            have hsb : snB x = true := by simp [snB, p1, p2, p3]
                            have Hsb := Lib.hid hsb
                            clear hsb
                            go_wp2_with (go_at_call 32; refine (In_any _ _ _ _).mono ?_; rintro e wz ⟨rfl, rfl⟩)
                            refine ⟨⟨k + 1, by omega, by go_num, fun z hz => ?_, hbx.out.kept HU.out, up_later hB.out HU.out⟩, by simp [intOf]; omega⟩
                            rw [List.take_add_one, Hx.out] at hz
                            rcases List.mem_append.1 hz with hz | hz
                            · exact hok.out z hz
                            · have : z = x := by simpa using hz
                              rw [this]
                              exact Hsb.out
                    · obtain rfl : k = L.sn.length := by omega
                      have hsn1 : ∀ x ∈ L.sn, snB x = true := fun x hx => hok.out x (by rw [List.take_length]; exact hx)
                      have hr := err0 (L := L) Hex.out (va_yes ⟨by omega, by have := Hcl.out; omega, by omega⟩ Hst.out (fun i j x y hi hj hij => Hne.out i j x y hi hj hij (List.getElem?_eq_some_iff.1 hj).1) Hrg.out Hcs.out hsn1)
                      have Hr := Lib.hid hr
                      clear hr hsn1 hok
                      go_wp2_with fail
                      go_ret
                      exact ⟨by rw [Hr.out]; rfl, hB.out⟩
                      
end Go.Proofs.Ytojbdmdjepgpjaa
                      
