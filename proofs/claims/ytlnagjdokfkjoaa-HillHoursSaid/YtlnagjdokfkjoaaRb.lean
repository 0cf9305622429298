/-
  WALKS: the reference's Asked, and the law's; Behind; Walls. Conditions: lists have at most 1000 elements; the land is without an error, and what is asked for is there.
-/
import Derived.Test.YtlnagjdokfkjoaaRa
import Derived.Test.YtlnagjdokfkjoaaLt
import Derived.Test.YtlnagjdokfkjoaaMe
import Derived.Test.YtlnagjdokfkjoaaUp
namespace Go.Proofs.Ytlnagjdokfkjoaa
open Go.RowKit


def askI (L : Ld) (a b k h : Int) : Int :=
  if !(inB 0 ((L.st.length : Int) - 1) a) then 2 else if !(inB 0 ((L.st.length : Int) - 1) b) then 2 else if !(inB 0 ((L.cs.length : Int) - 1) k) then 2 else if !(inB 0 ((L.sn.length : Int) - 1) h) then 2 else if a == b then 6 else 0
theorem ask_open {L : Ld} {a b k h : Int} (he : errI L = 0) : askI L a b k h = openI L k h [a, b] := by
  have h0 : openI L k h [a, b] = if !(inB 0 ((L.cs.length : Int) - 1) k) || !(inB 0 ((L.sn.length : Int) - 1) h) || !([a, b].all (inB 0 ((L.st.length : Int) - 1))) then 2 else if a == b then 6 else 0 := by
    unfold openI
    rw [if_neg (by simp [he])]
  rw [h0]
  unfold askI
  simp only [List.all_cons, List.all_nil, Bool.and_true]
  cases inB 0 ((L.st.length : Int) - 1) a <;> cases inB 0 ((L.st.length : Int) - 1) b <;> cases inB 0 ((L.cs.length : Int) - 1) k <;> cases inB 0 ((L.sn.length : Int) - 1) h <;> simp
theorem bail {L : Ld} {k h : Int} {l : List Int} (he : errI L ≠ 0) : openI L k h l = errI L := by unfold openI; rw [if_pos he]

set_option maxRecDepth 100000 in
set_option maxHeartbeats 1000000 in
theorem RAsked_any (v1 v2 v3 v4 : Value) (L : Ld) (c : List (Value × List Cl)) (a b k h : Int) (w : World) (hL : LandAt w v1 v2 v3 v4 L c) :
    Calls Try.prog 52 #[.agg #[v1, v2, v3, v4], .int .i64 a, .int .i64 b, .int .i64 k, .int .i64 h] w fun e w' => e = .returned (.int .i64 (askI L a b k h)) ∧ Below w.heap.size w w' := by
  have HL := Lib.hid hL
  obtain ⟨hn1, A1, cap1, rfl, _, _⟩ := hL.st.form
  obtain ⟨hn2, A2, cap2, rfl, _, _⟩ := hL.rg.form
  obtain ⟨hn3, A3, cap3, rfl, _, _⟩ := hL.cs.form
  obtain ⟨hn4, A4, cap4, rfl, _, _⟩ := hL.sn.form
  have Hcl := Lib.hid (cs_len hL.eq)
  clear hL
  clear HL
  cases h1 : inB 0 ((L.st.length : Int) - 1) a with
  | false =>
    have hr : askI L a b k h = 2 := by unfold askI; rw [h1]; rfl
    have HR := Lib.hid hr
    clear hr
    go_enter Try.func52, Try.ntmps52
    go_wp2_with (go_at_call 32; refine (In_any _ _ _ _).mono ?_; rintro e w1 ⟨rfl, rfl⟩)
    go_ret
    exact ⟨by rw [HR.out]; rfl, up_alloc up0 _⟩
  | true =>
    cases h2 : inB 0 ((L.st.length : Int) - 1) b with
    | false =>
      have hr : askI L a b k h = 2 := by unfold askI; rw [h1, h2]; rfl
      have HR := Lib.hid hr
      clear hr
      go_enter Try.func52, Try.ntmps52
      go_wp2_with (go_at_call 32; refine (In_any _ _ _ _).mono ?_; rintro e w1 ⟨rfl, rfl⟩)
      go_ret
      exact ⟨by rw [HR.out]; rfl, up_alloc up0 _⟩
    | true =>
      cases h3 : inB 0 ((c.length : Int) - 1) k with
      | false =>
        have hr : askI L a b k h = 2 := by unfold askI; rw [h1, h2, ← Hcl.out, h3]; rfl
        have HR := Lib.hid hr
        clear hr
        go_enter Try.func52, Try.ntmps52
        go_wp2_with (go_at_call 32; refine (In_any _ _ _ _).mono ?_; rintro e w1 ⟨rfl, rfl⟩)
        go_ret
        exact ⟨by rw [HR.out]; rfl, up_alloc up0 _⟩
      | true =>
        cases h4 : inB 0 ((L.sn.length : Int) - 1) h with
        | false =>
          have hr : askI L a b k h = 2 := by unfold askI; rw [h1, h2, ← Hcl.out, h3, h4]; rfl
          have HR := Lib.hid hr
          clear hr
          go_enter Try.func52, Try.ntmps52
          go_wp2_with (go_at_call 32; refine (In_any _ _ _ _).mono ?_; rintro e w1 ⟨rfl, rfl⟩)
          go_ret
          exact ⟨by rw [HR.out]; rfl, up_alloc up0 _⟩
        | true =>
          cases h5 : (a == b) with
          | true =>
            have hr : askI L a b k h = 6 := by unfold askI; rw [h1, h2, ← Hcl.out, h3, h4, h5]; rfl
            have HR := Lib.hid hr
            clear hr
            go_enter Try.func52, Try.ntmps52
            go_wp2_with (go_at_call 32; refine (In_any _ _ _ _).mono ?_; rintro e w1 ⟨rfl, rfl⟩)
            go_ret
            exact ⟨by rw [HR.out]; rfl, up_alloc up0 _⟩
          | false =>
            have hr : askI L a b k h = 0 := by unfold askI; rw [h1, h2, ← Hcl.out, h3, h4, h5]; rfl
            have HR := Lib.hid hr
            clear hr
            go_enter Try.func52, Try.ntmps52
            go_wp2_with (go_at_call 32; refine (In_any _ _ _ _).mono ?_; rintro e w1 ⟨rfl, rfl⟩)
            go_ret
            exact ⟨by rw [HR.out]; rfl, up_alloc up0 _⟩

set_option maxRecDepth 100000 in
set_option maxHeartbeats 1000000 in
theorem Lasked_any (v1 v2 v3 v4 : Value) (L : Ld) (c : List (Value × List Cl)) (a b k h : Int) (w : World) (hL : LandAt w v1 v2 v3 v4 L c) :
    Calls Try.prog 22 #[.agg #[v1, v2, v3, v4], .int .i64 a, .int .i64 b, .int .i64 k, .int .i64 h] w fun e w' => e = .returned (.int .i64 (openI L k h [a, b])) ∧ Below w.heap.size w w' := by
  have HL := Lib.hid hL
  obtain ⟨hn1, A1, cap1, rfl, _, _⟩ := hL.st.form
  obtain ⟨hn2, A2, cap2, rfl, _, _⟩ := hL.rg.form
  obtain ⟨hn3, A3, cap3, rfl, _, _⟩ := hL.cs.form
  obtain ⟨hn4, A4, cap4, rfl, _, _⟩ := hL.sn.form
  have Hcl := Lib.hid (cs_len hL.eq)
  clear hL
  have BX := Lib.hid (Box.new (w := w) (t := 27) (cs := #[.slice A1 L.st.length cap1, .slice A2 L.rg.length cap2, .slice A3 c.length cap3, .slice A4 L.sn.length cap4]) rfl)
  by_cases he : errI L = 0
  · have HR := Lib.hid (ask_open (a := a) (b := b) (k := k) (h := h) he)
    have He := Lib.hid he
    clear he
    go_enter Try.func22, Try.ntmps22
    go_wp2_with fail
    refine (Lfault_any _ _ _ _ L c _ (HL.out.kept (up_alloc up0 _))).mono ?_
    rintro e w1 ⟨rfl, hb⟩
    rw [He.out]
    have BB := BX.out.kept hb
    have cB := fun i => BB.cell i
    go_wp2_with fail
    clear cB BB
    refine (RAsked_any _ _ _ _ L c a b k h _ ((HL.out.kept (up_alloc up0 _)).kept hb)).mono ?_
    rintro e w2 ⟨rfl, hb2⟩
    go_wp2_with fail
    go_ret
    exact ⟨by rw [← HR.out]; rfl, up_later (up_later (up_alloc up0 _) hb) hb2⟩
  · have HR := Lib.hid (bail (k := k) (h := h) (l := [a, b]) he)
    have hne : (errI L != 0) = true := by simpa using he
    clear he
    go_enter Try.func22, Try.ntmps22
    go_wp2_with fail
    refine (Lfault_any _ _ _ _ L c _ (HL.out.kept (up_alloc up0 _))).mono ?_
    rintro e w1 ⟨rfl, hb⟩
    go_wp2_with fail
    go_ret
    exact ⟨by rw [HR.out]; rfl, up_later (up_alloc up0 _) hb⟩

/-- Two stations, a case and an hour that are there. -/
structure Ask (L : Ld) (i j k h : Nat) : Prop where
  ok : LandOK L
  i : i < L.st.length
  j : j < L.st.length
  k : k < L.cs.length
  h : h < L.sn.length

set_option maxRecDepth 100000 in
set_option maxHeartbeats 1000000 in
theorem RBehind_any (v1 v2 v3 v4 : Value) (L : Ld) (c : List (Value × List Cl)) (i j h : Nat) (w : World) (hL : LandAt w v1 v2 v3 v4 L c) (hO : LandOK L) (hi : i < L.st.length) (hj : j < L.st.length) (hh : h < L.sn.length) :
    Calls Try.prog 33 #[.agg #[v1, v2, v3, v4], .int .i64 i, .int .i64 j, .int .i64 h] w fun e w' => e = .returned (.bool (behindL L i j h)) ∧ Below w.heap.size w w' := by
  obtain ⟨s, hs⟩ : ∃ s, L.st[i]? = some s := ⟨_, List.getElem?_eq_getElem hi⟩
  obtain ⟨t, ht⟩ : ∃ s, L.st[j]? = some s := ⟨_, List.getElem?_eq_getElem hj⟩
  obtain ⟨q, hq⟩ : ∃ s, L.sn[h]? = some s := ⟨_, List.getElem?_eq_getElem hh⟩
  have hres : behindL L i j h = behindI q.e q.n s.x s.y t.x t.y := by simp [behindL, snAt, stAt, hs, ht, hq]
  obtain ⟨hx1, hx2, _⟩ := (hO.st s (List.mem_of_getElem? hs)).1
  obtain ⟨hx3, hx4, _⟩ := (hO.st t (List.mem_of_getElem? ht)).1
  obtain ⟨hx5, hx6, _⟩ := hO.sn q (List.mem_of_getElem? hq)
  have H := Lib.hid (behind_wrap q.e q.n s.x s.y t.x t.y hx1 hx2 hx3 hx4 hx5 hx6)
  have Hres := Lib.hid hres
  have Hs := Lib.hid hs
  have Ht := Lib.hid ht
  have Hq := Lib.hid hq
  have HL := Lib.hid hL
  obtain ⟨hn1, A1, cap1, rfl, _, _⟩ := hL.st.form
  obtain ⟨hn2, A2, cap2, rfl, _, _⟩ := hL.rg.form
  obtain ⟨hn3, A3, cap3, rfl, _, _⟩ := hL.cs.form
  obtain ⟨hn4, A4, cap4, rfl, _, _⟩ := hL.sn.form
  have Hcl := Lib.hid (cs_len hL.eq)
  clear hL
  obtain ⟨b1, f1, rfl, hb1, _⟩ := HL.out.st.at rfl hs
  obtain ⟨b4, f4, rfl, hb4, _⟩ := HL.out.sn.at rfl hq
  have i0 : (0 : Int) ≤ (i : Int) := by omega
  have i1 : (i : Int) < (L.st.length : Int) := by omega
  have j0 : (0 : Int) ≤ (j : Int) := by omega
  have j1 : (j : Int) < (L.st.length : Int) := by omega
  have h0 : (0 : Int) ≤ (h : Int) := by omega
  have h1 : (h : Int) < (L.sn.length : Int) := by omega
  clear hres hs ht hq hO
  go_enter Try.func33, Try.ntmps33
  go_upto_region 1 with fail
  have B4 := Box.new (w := w) (t := 27) (cs := #[.slice (some ⟨b1, f1, none⟩) L.st.length cap1, .slice A2 L.rg.length cap2, .slice A3 c.length cap3, .slice (some ⟨b4, f4, none⟩) L.sn.length cap4]) rfl
  have HB := Lib.hid (up_alloc (up0 (w := w)) (.cells #[.slice (some ⟨b1, f1, none⟩) L.st.length cap1, .slice A2 L.rg.length cap2, .slice A3 c.length cap3, .slice (some ⟨b4, f4, none⟩) L.sn.length cap4] 27))
  have HR := Lib.hid (HL.out.st.kept HB.out)
  have HQ := Lib.hid (HL.out.sn.kept HB.out)
  apply wp_region_lets 21 [.val _, .val _, .val _, .val _, .val _, .val _, .val _, .val _, .val _, .val _, .val _, .val _, .val _, .val _, .val _, .box 74 #[.int .i64 0, .int .i64 0, .int .i64 0, .int .i64 0] #[.int .i64 s.x, .int .i64 s.y, .int .i64 s.z, .int .i64 s.m], .box 74 #[.int .i64 0, .int .i64 0, .int .i64 0, .int .i64 0] #[.int .i64 t.x, .int .i64 t.y, .int .i64 t.z, .int .i64 t.m], .box 60 #[.int .i64 0, .int .i64 0, .int .i64 0] #[.int .i64 q.e, .int .i64 q.n, .int .i64 q.u], .put 15, .put 16, .put 17]
  case hm => kernel_rfl
  case hB => kernel_rfl
  case hA => (intro vs; simp only [List.take_succ_cons, List.take_zero, putAll, if_true, Act.put, List.setIfInBounds_toArray, List.set_cons_zero, List.set_cons_succ]; exact rfl)
  case hstep =>
    intro vs
    refine And.intro (fun w hw hd => ?_) ?_
    · change if Region.wanted _ _ = true then Gives _ _ _ _ (GotVal _ _) else _
      refine ite_yes rfl ?_
      simp only [Gives]
      go_simp
      exact ⟨rfl, rfl⟩
    refine And.intro (fun w hw hd => ?_) ?_
    · have d0 := hd 0 (by decide) rfl
      change vs 0 = _ at d0
      change if Region.wanted _ _ = true then Gives _ _ _ _ (GotVal _ _) else _
      refine ite_yes rfl ?_
      have c_B4 := fun i => (B4.kept hw).cell i
      simp only [Gives]
      go_simp
      exact ⟨rfl, rfl⟩
    refine And.intro (fun w hw hd => ?_) ?_
    · change if Region.wanted _ _ = true then Gives _ _ _ _ (GotVal _ _) else _
      refine ite_yes rfl ?_
      simp only [Gives]
      go_simp
      exact ⟨rfl, rfl⟩
    refine And.intro (fun w hw hd => ?_) ?_
    · have d1 := hd 1 (by decide) rfl
      change vs 1 = _ at d1
      have d2 := hd 2 (by decide) rfl
      change vs 2 = _ at d2
      change if Region.wanted _ _ = true then Gives _ _ _ _ (GotVal _ _) else _
      refine ite_yes rfl ?_
      simp only [Gives]
      go_simp
      exact ⟨rfl, rfl⟩
    refine And.intro (fun w hw hd => ?_) ?_
    · have d3 := hd 3 (by decide) rfl
      change vs 3 = _ at d3
      change if Region.wanted _ _ = true then Gives _ _ _ _ (GotVal _ _) else _
      refine ite_yes rfl ?_
      have c_B4 := fun i => (B4.kept hw).cell i
      have q0 : w.cell? ⟨b1, f1 + i * 4, none⟩ = some (.int .i64 s.x) := (HR.out.kept hw).cellAt Hs.out (j := 0) rfl
      have q1 : w.cell? ⟨b1, f1 + i * 4 + 1, none⟩ = some (.int .i64 s.y) := (HR.out.kept hw).cellAt Hs.out (j := 1) rfl
      have q2 : w.cell? ⟨b1, f1 + i * 4 + 2, none⟩ = some (.int .i64 s.z) := (HR.out.kept hw).cellAt Hs.out (j := 2) rfl
      have q3 : w.cell? ⟨b1, f1 + i * 4 + 3, none⟩ = some (.int .i64 s.m) := (HR.out.kept hw).cellAt Hs.out (j := 3) rfl
      have r0 : w.cell? ⟨b1, f1 + j * 4, none⟩ = some (.int .i64 t.x) := (HR.out.kept hw).cellAt Ht.out (j := 0) rfl
      have r1 : w.cell? ⟨b1, f1 + j * 4 + 1, none⟩ = some (.int .i64 t.y) := (HR.out.kept hw).cellAt Ht.out (j := 1) rfl
      have r2 : w.cell? ⟨b1, f1 + j * 4 + 2, none⟩ = some (.int .i64 t.z) := (HR.out.kept hw).cellAt Ht.out (j := 2) rfl
      have r3 : w.cell? ⟨b1, f1 + j * 4 + 3, none⟩ = some (.int .i64 t.m) := (HR.out.kept hw).cellAt Ht.out (j := 3) rfl
      simp only [Gives]
      go_simp
      exact ⟨rfl, rfl⟩
    refine And.intro (fun w hw hd => ?_) ?_
    · change if Region.wanted _ _ = true then Gives _ _ _ _ (GotVal _ _) else _
      refine ite_yes rfl ?_
      simp only [Gives]
      go_simp
      exact ⟨rfl, rfl⟩
    refine And.intro (fun w hw hd => ?_) ?_
    · have d5 := hd 5 (by decide) rfl
      change vs 5 = _ at d5
      change if Region.wanted _ _ = true then Gives _ _ _ _ (GotVal _ _) else _
      refine ite_yes rfl ?_
      have c_B4 := fun i => (B4.kept hw).cell i
      simp only [Gives]
      go_simp
      exact ⟨rfl, rfl⟩
    refine And.intro (fun w hw hd => ?_) ?_
    · change if Region.wanted _ _ = true then Gives _ _ _ _ (GotVal _ _) else _
      refine ite_yes rfl ?_
      simp only [Gives]
      go_simp
      exact ⟨rfl, rfl⟩
    refine And.intro (fun w hw hd => ?_) ?_
    · have d6 := hd 6 (by decide) rfl
      change vs 6 = _ at d6
      have d7 := hd 7 (by decide) rfl
      change vs 7 = _ at d7
      change if Region.wanted _ _ = true then Gives _ _ _ _ (GotVal _ _) else _
      refine ite_yes rfl ?_
      simp only [Gives]
      go_simp
      exact ⟨rfl, rfl⟩
    refine And.intro (fun w hw hd => ?_) ?_
    · have d8 := hd 8 (by decide) rfl
      change vs 8 = _ at d8
      change if Region.wanted _ _ = true then Gives _ _ _ _ (GotVal _ _) else _
      refine ite_yes rfl ?_
      have c_B4 := fun i => (B4.kept hw).cell i
      have q0 : w.cell? ⟨b1, f1 + i * 4, none⟩ = some (.int .i64 s.x) := (HR.out.kept hw).cellAt Hs.out (j := 0) rfl
      have q1 : w.cell? ⟨b1, f1 + i * 4 + 1, none⟩ = some (.int .i64 s.y) := (HR.out.kept hw).cellAt Hs.out (j := 1) rfl
      have q2 : w.cell? ⟨b1, f1 + i * 4 + 2, none⟩ = some (.int .i64 s.z) := (HR.out.kept hw).cellAt Hs.out (j := 2) rfl
      have q3 : w.cell? ⟨b1, f1 + i * 4 + 3, none⟩ = some (.int .i64 s.m) := (HR.out.kept hw).cellAt Hs.out (j := 3) rfl
      have r0 : w.cell? ⟨b1, f1 + j * 4, none⟩ = some (.int .i64 t.x) := (HR.out.kept hw).cellAt Ht.out (j := 0) rfl
      have r1 : w.cell? ⟨b1, f1 + j * 4 + 1, none⟩ = some (.int .i64 t.y) := (HR.out.kept hw).cellAt Ht.out (j := 1) rfl
      have r2 : w.cell? ⟨b1, f1 + j * 4 + 2, none⟩ = some (.int .i64 t.z) := (HR.out.kept hw).cellAt Ht.out (j := 2) rfl
      have r3 : w.cell? ⟨b1, f1 + j * 4 + 3, none⟩ = some (.int .i64 t.m) := (HR.out.kept hw).cellAt Ht.out (j := 3) rfl
      simp only [Gives]
      go_simp
      exact ⟨rfl, rfl⟩
    refine And.intro (fun w hw hd => ?_) ?_
    · change if Region.wanted _ _ = true then Gives _ _ _ _ (GotVal _ _) else _
      refine ite_yes rfl ?_
      simp only [Gives]
      go_simp
      exact ⟨rfl, rfl⟩
    refine And.intro (fun w hw hd => ?_) ?_
    · have d10 := hd 10 (by decide) rfl
      change vs 10 = _ at d10
      change if Region.wanted _ _ = true then Gives _ _ _ _ (GotVal _ _) else _
      refine ite_yes rfl ?_
      have c_B4 := fun i => (B4.kept hw).cell i
      simp only [Gives]
      go_simp
      exact ⟨rfl, rfl⟩
    refine And.intro (fun w hw hd => ?_) ?_
    · change if Region.wanted _ _ = true then Gives _ _ _ _ (GotVal _ _) else _
      refine ite_yes rfl ?_
      simp only [Gives]
      go_simp
      exact ⟨rfl, rfl⟩
    refine And.intro (fun w hw hd => ?_) ?_
    · have d11 := hd 11 (by decide) rfl
      change vs 11 = _ at d11
      have d12 := hd 12 (by decide) rfl
      change vs 12 = _ at d12
      change if Region.wanted _ _ = true then Gives _ _ _ _ (GotVal _ _) else _
      refine ite_yes rfl ?_
      simp only [Gives]
      go_simp
      exact ⟨rfl, rfl⟩
    refine And.intro (fun w hw hd => ?_) ?_
    · have d13 := hd 13 (by decide) rfl
      change vs 13 = _ at d13
      change if Region.wanted _ _ = true then Gives _ _ _ _ (GotVal _ _) else _
      refine ite_yes rfl ?_
      have c_B4 := fun i => (B4.kept hw).cell i
      have q0 : w.cell? ⟨b4, f4 + h * 3, none⟩ = some (.int .i64 q.e) := (HQ.out.kept hw).cellAt Hq.out (j := 0) rfl
      have q1 : w.cell? ⟨b4, f4 + h * 3 + 1, none⟩ = some (.int .i64 q.n) := (HQ.out.kept hw).cellAt Hq.out (j := 1) rfl
      have q2 : w.cell? ⟨b4, f4 + h * 3 + 2, none⟩ = some (.int .i64 q.u) := (HQ.out.kept hw).cellAt Hq.out (j := 2) rfl
      simp only [Gives]
      go_simp
      exact ⟨rfl, rfl⟩
    refine And.intro (fun w hw hd => ?_) ?_
    · refine And.intro rfl ?_
      change Gives _ _ _ _ (GotBox _ _ _)
      simp only [Gives]
      go_simp
      exact ⟨rfl, rfl⟩
    refine And.intro (fun w hw hd => ?_) ?_
    · refine And.intro rfl ?_
      change Gives _ _ _ _ (GotBox _ _ _)
      simp only [Gives]
      go_simp
      exact ⟨rfl, rfl⟩
    refine And.intro (fun w hw hd => ?_) ?_
    · refine And.intro rfl ?_
      change Gives _ _ _ _ (GotBox _ _ _)
      simp only [Gives]
      go_simp
      exact ⟨rfl, rfl⟩
    refine And.intro (fun w hw hd => ?_) ?_
    · have d4 := hd 4 (by decide) rfl
      change vs 4 = _ at d4
      refine And.intro rfl (fun g hg hb => ?_)
      change vs 15 = _ at hg
      have c_b := fun i => hb.cell i
      have f_b := fun i => hb.free i
      have l_b := hb.lt
      change Gives _ _ _ _ (fun _ w' => Fill _ _ _ w w')
      simp only [Gives]
      go_simp
      exact fill4 hb
    refine And.intro (fun w hw hd => ?_) ?_
    · have d9 := hd 9 (by decide) rfl
      change vs 9 = _ at d9
      refine And.intro rfl (fun g hg hb => ?_)
      change vs 16 = _ at hg
      have c_b := fun i => hb.cell i
      have f_b := fun i => hb.free i
      have l_b := hb.lt
      change Gives _ _ _ _ (fun _ w' => Fill _ _ _ w w')
      simp only [Gives]
      go_simp
      exact fill4 hb
    refine And.intro (fun w hw hd => ?_) ?_
    · have d14 := hd 14 (by decide) rfl
      change vs 14 = _ at d14
      refine And.intro rfl (fun g hg hb => ?_)
      change vs 17 = _ at hg
      have c_b := fun i => hb.cell i
      have f_b := fun i => hb.free i
      have l_b := hb.lt
      change Gives _ _ _ _ (fun _ w' => Fill _ _ _ w w')
      simp only [Gives]
      go_simp
      exact fill3 hb
    exact trivial
  case hK => kernel_rfl
  intro vs wt hw hd hap
  have d0 := hd 0 (by decide)
  change vs 0 = _ at d0
  have d1 := hd 1 (by decide)
  change vs 1 = _ at d1
  have d2 := hd 2 (by decide)
  change vs 2 = _ at d2
  have d3 := hd 3 (by decide)
  change vs 3 = _ at d3
  have d4 := hd 4 (by decide)
  change vs 4 = _ at d4
  have d5 := hd 5 (by decide)
  change vs 5 = _ at d5
  have d6 := hd 6 (by decide)
  change vs 6 = _ at d6
  have d7 := hd 7 (by decide)
  change vs 7 = _ at d7
  have d8 := hd 8 (by decide)
  change vs 8 = _ at d8
  have d9 := hd 9 (by decide)
  change vs 9 = _ at d9
  have d10 := hd 10 (by decide)
  change vs 10 = _ at d10
  have d11 := hd 11 (by decide)
  change vs 11 = _ at d11
  have d12 := hd 12 (by decide)
  change vs 12 = _ at d12
  have d13 := hd 13 (by decide)
  change vs 13 = _ at d13
  have d14 := hd 14 (by decide)
  change vs 14 = _ at d14
  obtain ⟨n15, d15, l15, _, N15⟩ := hd 15 (by decide)
  change Box wt n15 74 #[.int .i64 s.x, .int .i64 s.y, .int .i64 s.z, .int .i64 s.m] at N15
  obtain ⟨n16, d16, l16, _, N16⟩ := hd 16 (by decide)
  change Box wt n16 74 #[.int .i64 t.x, .int .i64 t.y, .int .i64 t.z, .int .i64 t.m] at N16
  obtain ⟨n17, d17, l17, _, N17⟩ := hd 17 (by decide)
  change Box wt n17 60 #[.int .i64 q.e, .int .i64 q.n, .int .i64 q.u] at N17
  have e15_16 := hap 15 16 (by decide) (by decide) (by decide) rfl rfl
  have e15_17 := hap 15 17 (by decide) (by decide) (by decide) rfl rfl
  have e16_17 := hap 16 17 (by decide) (by decide) (by decide) rfl rfl
  simp only [d15, d16, d17, blk] at e15_16 e15_17 e16_17
  simp only [Nat.zero_add, Nat.reduceAdd, d0, d1, d2, d3, d4, d5, d6, d7, d8, d9, d10, d11, d12, d13, d14, d15, d16, d17, List.drop_succ_cons, List.drop_nil]
  have B4 := B4.kept hw
  have c_B4 := fun i => B4.cell i
  have f_B4 := fun i => B4.free i
  have c_N15 := fun i => N15.cell i
  have f_N15 := fun i => N15.free i
  have c_N16 := fun i => N16.cell i
  have f_N16 := fun i => N16.free i
  have c_N17 := fun i => N17.cell i
  have f_N17 := fun i => N17.free i
  clear hd hap d0 d1 d2 d3 d4 d5 d6 d7 d8 d9 d10 d11 d12 d13 d14 d15 d16 d17
  go_wp2_with fail
  go_ret
  exact ⟨ret_bool (by rw [Hres.out, ← H.out]), up_later HB.out hw⟩

end Go.Proofs.Ytlnagjdokfkjoaa
