/-
  WALKS of the reference's 'In' and 'IsWall', and of the law's 'Thin', over a land of any size. No condition.
-/
import Derived.Test.YtojbdmdjepgpjaaAw
namespace Go.Proofs.Ytojbdmdjepgpjaa
open Go.RowKit

set_option maxRecDepth 100000 in
set_option maxHeartbeats 1000000 in
theorem In_any (n lo hi : Int) (w : World) : Calls Try.prog 32 #[.int .i64 n, .int .i64 lo, .int .i64 hi] w fun e w' => e = .returned (.bool (inB lo hi n)) ∧ w = w' := by
  by_cases h1 : lo ≤ n
  · by_cases h2 : n ≤ hi
    · have d1 : decide (lo ≤ n) = true := by simp [h1]
      have d2 : decide (n ≤ hi) = true := by simp [h2]
      go_enter Try.func32, Try.ntmps32
      go_wp2
      go_ret
      exact ⟨by simp [inB, h1, h2], rfl⟩
    · have d1 : decide (lo ≤ n) = true := by simp [h1]
      have d2 : decide (n ≤ hi) = false := by simp; omega
      go_enter Try.func32, Try.ntmps32
      go_wp2
      go_ret
      exact ⟨by simp [inB, h1, h2], rfl⟩
  · have d1 : decide (lo ≤ n) = false := by simp; omega
    go_enter Try.func32, Try.ntmps32
    go_wp2
    go_ret
    exact ⟨by simp [inB]; omega, rfl⟩

def refWallB (x : Wl) : Bool := inB 0 100 x.x1 && inB 0 100 x.y1 && inB 0 100 x.x2 && inB 0 100 x.y2 && ((x.x1 != x.x2) || (x.y1 != x.y2)) && inB 0 x.t x.b && decide (x.t ≤ 1000)
theorem refWallB_eq (x : Wl) : refWallB x = wlB x := by
  rw [Bool.eq_iff_iff]
  simp only [refWallB, wlB, inB, Bool.and_eq_true, Bool.or_eq_true, Bool.not_eq_true', Bool.and_eq_false_iff, decide_eq_true_eq, bne_iff_ne, ne_eq, beq_eq_false_iff_ne]
  omega

set_option maxRecDepth 100000 in
set_option maxHeartbeats 2000000 in
theorem RIsWall_any (x : Wl) (w : World) : Calls Try.prog 84 #[.agg #[.int .i64 x.x1, .int .i64 x.y1, .int .i64 x.x2, .int .i64 x.y2, .int .i64 x.b, .int .i64 x.t]] w fun e w' => e = .returned (.bool (wlB x)) ∧ Below w.heap.size w w' := by
  rw [← refWallB_eq]
  cases k1 : inB 0 100 x.x1 with
  | false =>
    go_enter Try.func84, Try.ntmps84
    go_wp2_with (go_at_call 32; refine (In_any _ _ _ _).mono ?_; rintro e w1 ⟨rfl, rfl⟩)
    go_ret
    exact ⟨by simp [refWallB, *], up_alloc up0 _⟩
  | true =>
    cases k2 : inB 0 100 x.y1 with
    | false =>
      go_enter Try.func84, Try.ntmps84
      go_wp2_with (go_at_call 32; refine (In_any _ _ _ _).mono ?_; rintro e w1 ⟨rfl, rfl⟩)
      go_ret
      exact ⟨by simp [refWallB, *], up_alloc up0 _⟩
    | true =>
      cases k3 : inB 0 100 x.x2 with
      | false =>
        go_enter Try.func84, Try.ntmps84
        go_wp2_with (go_at_call 32; refine (In_any _ _ _ _).mono ?_; rintro e w1 ⟨rfl, rfl⟩)
        go_ret
        exact ⟨by simp [refWallB, *], up_alloc up0 _⟩
      | true =>
        cases k4 : inB 0 100 x.y2 with
        | false =>
          go_enter Try.func84, Try.ntmps84
          go_wp2_with (go_at_call 32; refine (In_any _ _ _ _).mono ?_; rintro e w1 ⟨rfl, rfl⟩)
          go_ret
          exact ⟨by simp [refWallB, *], up_alloc up0 _⟩
        | true =>
          cases k5 : (x.x1 != x.x2) with
          | true =>
            cases k6 : inB 0 x.t x.b with
            | false =>
              go_enter Try.func84, Try.ntmps84
              go_wp2_with (go_at_call 32; refine (In_any _ _ _ _).mono ?_; rintro e w1 ⟨rfl, rfl⟩)
              go_ret
              exact ⟨by simp [refWallB, *], up_alloc up0 _⟩
            | true =>
              cases k7 : decide (x.t ≤ 1000) with
              | false =>
                go_enter Try.func84, Try.ntmps84
                go_wp2_with (go_at_call 32; refine (In_any _ _ _ _).mono ?_; rintro e w1 ⟨rfl, rfl⟩)
                go_ret
                exact ⟨by simp [refWallB, *], up_alloc up0 _⟩
              | true =>
                go_enter Try.func84, Try.ntmps84
                go_wp2_with (go_at_call 32; refine (In_any _ _ _ _).mono ?_; rintro e w1 ⟨rfl, rfl⟩)
                go_ret
                exact ⟨by simp [refWallB, *], up_alloc up0 _⟩
          | false =>
            cases k8 : (x.y1 != x.y2) with
            | false =>
              go_enter Try.func84, Try.ntmps84
              go_wp2_with (go_at_call 32; refine (In_any _ _ _ _).mono ?_; rintro e w1 ⟨rfl, rfl⟩)
              go_ret
              exact ⟨by simp [refWallB, *], up_alloc up0 _⟩
            | true =>
              cases k6 : inB 0 x.t x.b with
              | false =>
                go_enter Try.func84, Try.ntmps84
                go_wp2_with (go_at_call 32; refine (In_any _ _ _ _).mono ?_; rintro e w1 ⟨rfl, rfl⟩)
                go_ret
                exact ⟨by simp [refWallB, *], up_alloc up0 _⟩
              | true =>
                cases k7 : decide (x.t ≤ 1000) with
                | false =>
                  go_enter Try.func84, Try.ntmps84
                  go_wp2_with (go_at_call 32; refine (In_any _ _ _ _).mono ?_; rintro e w1 ⟨rfl, rfl⟩)
                  go_ret
                  exact ⟨by simp [refWallB, *], up_alloc up0 _⟩
                | true =>
                  go_enter Try.func84, Try.ntmps84
                  go_wp2_with (go_at_call 32; refine (In_any _ _ _ _).mono ?_; rintro e w1 ⟨rfl, rfl⟩)
                  go_ret
                  exact ⟨by simp [refWallB, *], up_alloc up0 _⟩

end Go.Proofs.Ytojbdmdjepgpjaa

namespace Go.Proofs.Ytojbdmdjepgpjaa
open Go.RowKit

/-- As RowsAt, of any length. -/
def RowsAny {α : Type} (w : World) (v : Value) (sz : Nat) (cells : α → List Value) (l : List α) : Prop :=
  ∃ A cap, v = .slice A l.length cap ∧ l.length ≤ cap ∧ cap ≤ 9223372036854775807 ∧
    (l ≠ [] → ∃ b off, A = some ⟨b, off, none⟩ ∧ b < w.heap.size ∧ ∀ i x, l[i]? = some x → ∀ j u, (cells x)[j]? = some u → w.cell? ⟨b, off + i * sz + j, none⟩ = some u)
theorem RowsAny.rows {α : Type} {w : World} {v : Value} {sz : Nat} {cells : α → List Value} {l : List α} (h : RowsAny w v sz cells l) (hn : l.length ≤ 1000) : RowsAt w v sz cells l := ⟨hn, h⟩
theorem RowsAny.form {α : Type} {w : World} {v : Value} {sz : Nat} {cells : α → List Value} {l : List α} (h : RowsAny w v sz cells l) : ∃ A cap, v = .slice A l.length cap ∧ l.length ≤ cap ∧ cap ≤ 9223372036854775807 := by
  obtain ⟨A, cap, h1, h2, h3, _⟩ := h
  exact ⟨A, cap, h1, h2, h3⟩
theorem RowsAny.kept {α : Type} {w w' : World} {v : Value} {sz : Nat} {cells : α → List Value} {l : List α} (h : RowsAny w v sz cells l) (hb : Below w.heap.size w w') : RowsAny w' v sz cells l := by
  obtain ⟨A, cap, h1, h2, h3, h4⟩ := h
  refine ⟨A, cap, h1, h2, h3, fun hne => ?_⟩
  obtain ⟨b, off, e, hlt, hc⟩ := h4 hne
  exact ⟨b, off, e, Nat.lt_of_lt_of_le hlt hb.size, fun i x hx j u hu => (hb.cell (p := ⟨b, off + i * sz + j, none⟩) hlt).trans (hc i x hx j u hu)⟩
theorem RowsAny.at {α : Type} {w : World} {v : Value} {sz : Nat} {cells : α → List Value} {l : List α} (h : RowsAny w v sz cells l) {A : Option Addr} {n cap : Nat} (hv : v = .slice A n cap) {i : Nat} {x : α} (hx : l[i]? = some x) :
    ∃ b off, A = some ⟨b, off, none⟩ ∧ b < w.heap.size ∧ ∀ j u, (cells x)[j]? = some u → w.cell? ⟨b, off + i * sz + j, none⟩ = some u := by
  obtain ⟨A', cap', h1, _, _, h4⟩ := h
  have hne : l ≠ [] := fun e => by subst e; simp at hx
  obtain ⟨b, off, e, hlt, hc⟩ := h4 hne
  rw [hv] at h1
  injection h1 with hA
  subst hA
  exact ⟨b, off, e, hlt, fun j u hu => hc i x hx j u hu⟩
structure LandAny (w : World) (v1 v2 v3 v4 : Value) (L : Ld) (c : List (Value × List Cl)) : Prop where
  st : RowsAny w v1 4 St.cells L.st
  rg : RowsAny w v2 6 Wl.cells L.rg
  cs : RowsAny w v3 1 (fun x => [x.1]) c
  eq : c.map (·.2) = L.cs
  each : ∀ x ∈ c, RowsAny w x.1 8 Cl.cells x.2
  sn : RowsAny w v4 3 Sn.cells L.sn
theorem LandAny.kept {w w' : World} {v1 v2 v3 v4 : Value} {L : Ld} {c : List (Value × List Cl)} (h : LandAny w v1 v2 v3 v4 L c) (hb : Below w.heap.size w w') : LandAny w' v1 v2 v3 v4 L c :=
  ⟨h.st.kept hb, h.rg.kept hb, h.cs.kept hb, h.eq, fun x hx => (h.each x hx).kept hb, h.sn.kept hb⟩
def thinB (L : Ld) : Bool := (L.cs.take 10).all (fun x => decide (x.length ≤ 7)) && (decide (L.st.length ≤ 9) && decide (L.rg.length ≤ 9) && decide (L.cs.length ≤ 9) && decide (L.sn.length ≤ 15))
theorem LandAny.thin {w : World} {v1 v2 v3 v4 : Value} {L : Ld} {c : List (Value × List Cl)} (h : LandAny w v1 v2 v3 v4 L c) (ht : thinB L = true) : LandAt w v1 v2 v3 v4 L c := by
  simp only [thinB, Bool.and_eq_true, decide_eq_true_eq, List.all_eq_true] at ht
  obtain ⟨h0, ⟨⟨h1, h2⟩, h3⟩, h4⟩ := ht
  have hc : c.length = L.cs.length := by rw [← h.eq]; simp
  refine ⟨h.st.rows (by omega), h.rg.rows (by omega), h.cs.rows (by omega), h.eq, fun x hx => (h.each x hx).rows ?_, h.sn.rows (by omega)⟩
  have hm : x.2 ∈ L.cs := by rw [← h.eq]; exact List.mem_map.2 ⟨x, hx, rfl⟩
  have := h0 x.2 (by rw [List.take_of_length_le (by omega)]; exact hm)
  omega

set_option maxRecDepth 100000 in
set_option maxHeartbeats 2000000 in
theorem Thin_any (v1 v2 v3 v4 : Value) (L : Ld) (c : List (Value × List Cl)) (w : World) (hL : LandAny w v1 v2 v3 v4 L c) :
    Calls Try.prog 15 #[.agg #[v1, v2, v3, v4]] w fun e w' => e = .returned (.bool (thinB L)) ∧ Below w.heap.size w w' := by
  have HL := Lib.hid hL
  obtain ⟨A1, cap1, rfl, _, _⟩ := hL.st.form
  obtain ⟨A2, cap2, rfl, _, _⟩ := hL.rg.form
  obtain ⟨A3, cap3, rfl, _, _⟩ := hL.cs.form
  obtain ⟨A4, cap4, rfl, _, _⟩ := hL.sn.form
  have hcl : c.length = L.cs.length := by rw [← hL.eq]; simp
  have Hcl := Lib.hid hcl
  have Hce := Lib.hid hL.eq
  clear hL hcl
  go_enter Try.func15, Try.ntmps15
  go_wp2_with fail
  have B1 := Box.new (w := w) (t := 27) (cs := #[.slice A1 L.st.length cap1, .slice A2 L.rg.length cap2, .slice A3 c.length cap3, .slice A4 L.sn.length cap4]) rfl
  go_loopw [3] (fun q wr => ∃ k : Nat, k ≤ c.length ∧ k ≤ 10 ∧ q = .int .i64 k ∧ Hid ((L.cs.take k).all (fun x => decide (x.length ≤ 7)) = true) ∧ (w.alloc (.cells #[.slice A1 L.st.length cap1, .slice A2 L.rg.length cap2, .slice A3 c.length cap3, .slice A4 L.sn.length cap4] 27)) = wr) (fun q _ => c.length - (intOf q).toNat)
  case atStart => exact ⟨0, by omega, by omega, rfl, by simp [Hid], rfl⟩
  case round =>
    obtain ⟨k, hk, hk10, rfl, hall, rfl⟩ := hrel
    have c1 := fun i => B1.cell i
    by_cases hlt : k < c.length
    · by_cases hlt10 : k < 10
      · obtain ⟨x, hx⟩ : ∃ x, c[k]? = some x := ⟨_, List.getElem?_eq_getElem hlt⟩
        obtain ⟨b, off, hA, hb, hcell⟩ := HL.out.cs.at rfl hx
        subst hA
        have q0 : w.cell? ⟨b, off + k, none⟩ = some x.1 := by simpa using hcell 0 _ rfl
        obtain ⟨Ak, capk, hv, _, _⟩ := (HL.out.each x (List.mem_of_getElem? hx)).form
        rw [hv] at q0
        have k0 : (0 : Int) ≤ (k : Int) := by omega
        have k1 : (k : Int) < (c.length : Int) := by omega
        have hLk : L.cs[k]? = some x.2 := by rw [← Hce.out]; simp [hx]
        have HLk := Lib.hid hLk
        clear hx hv hcell hLk
        by_cases h7 : x.2.length ≤ 7
        · have d7 : ¬ (7 : Int) < (x.2.length : Int) := by omega
          go_wp2_with fail
          refine ⟨⟨k + 1, by omega, by omega, by go_num, ?_, by first | exact trivial | rfl⟩, by simp [intOf]; omega⟩
          exact all_take_succ HLk.out hall.out (by simp [h7])
        · have d7 : (7 : Int) < (x.2.length : Int) := by omega
          have hr : thinB L = false := by
            have hm : x.2 ∈ L.cs.take 10 := List.mem_of_getElem? (i := k) (by rw [List.getElem?_take, if_pos hlt10]; exact HLk.out)
            have : (L.cs.take 10).all (fun x => decide (x.length ≤ 7)) = false := by
              cases h : (L.cs.take 10).all (fun x => decide (x.length ≤ 7)) with
              | false => rfl
              | true => exact absurd (of_decide_eq_true (List.all_eq_true.1 h x.2 hm)) h7
            simp [thinB, this]
          have Hr := Lib.hid hr
          clear hr
          go_wp2_with fail
          go_ret
          exact ⟨by rw [Hr.out]; rfl, up_alloc up0 _⟩
      · have k10 : ¬ (k : Int) < 10 := by omega
        have k11 : (k : Int) < (c.length : Int) := by omega
        by_cases h1 : L.st.length ≤ 9
        · have n1 : (L.st.length : Int) ≤ 9 := by omega
          by_cases h2 : L.rg.length ≤ 9
          · have n2 : (L.rg.length : Int) ≤ 9 := by omega
            have n3 : ¬ (c.length : Int) ≤ 9 := by omega
            have hr : thinB L = false := by
              have hq := Hcl.out
              have hx : ¬ L.cs.length ≤ 9 := by omega
              simp [thinB, hx]
            have Hr := Lib.hid hr
            clear hr
            go_wp2_with fail
            go_ret
            exact ⟨by rw [Hr.out]; rfl, up_alloc up0 _⟩
          · have n2 : ¬ (L.rg.length : Int) ≤ 9 := by omega
            have hr : thinB L = false := by
              have hq := Hcl.out
              have hx : ¬ L.rg.length ≤ 9 := by omega
              simp [thinB, hx]
            have Hr := Lib.hid hr
            clear hr
            go_wp2_with fail
            go_ret
            exact ⟨by rw [Hr.out]; rfl, up_alloc up0 _⟩
        · have n1 : ¬ (L.st.length : Int) ≤ 9 := by omega
          have hr : thinB L = false := by
            have hq := Hcl.out
            have hx : ¬ L.st.length ≤ 9 := by omega
            simp [thinB, hx]
          have Hr := Lib.hid hr
          clear hr
          go_wp2_with fail
          go_ret
          exact ⟨by rw [Hr.out]; rfl, up_alloc up0 _⟩
    · obtain rfl : k = c.length := by omega
      by_cases h1 : L.st.length ≤ 9
      · have n1 : (L.st.length : Int) ≤ 9 := by omega
        by_cases h2 : L.rg.length ≤ 9
        · have n2 : (L.rg.length : Int) ≤ 9 := by omega
          by_cases h3 : c.length ≤ 9
          · have n3 : (c.length : Int) ≤ 9 := by omega
            by_cases h4 : L.sn.length ≤ 15
            · have n4 : (L.sn.length : Int) ≤ 15 := by omega
              have hr : thinB L = true := by
                have h0 : (L.cs.take 10).all (fun x => decide (x.length ≤ 7)) = true := by
                  have h := hall.out
                  have hq := Hcl.out
                  rw [List.take_of_length_le (by omega)] at h
                  rw [List.take_of_length_le (by omega)]
                  exact h
                have hq := Hcl.out
                simp only [thinB, h0, Bool.true_and, Bool.and_eq_true, decide_eq_true_eq]
                omega
              have Hr := Lib.hid hr
              clear hr
              go_wp2_with fail
              go_ret
              exact ⟨by rw [Hr.out]; rfl, up_alloc up0 _⟩
            · have n4 : ¬ (L.sn.length : Int) ≤ 15 := by omega
              have hr : thinB L = false := by
                have hq := Hcl.out
                have hx : ¬ L.sn.length ≤ 15 := by omega
                simp [thinB, hx]
              have Hr := Lib.hid hr
              clear hr
              go_wp2_with fail
              go_ret
              exact ⟨by rw [Hr.out]; rfl, up_alloc up0 _⟩
          · have n3 : ¬ (c.length : Int) ≤ 9 := by omega
            have hr : thinB L = false := by
              have hq := Hcl.out
              have hx : ¬ L.cs.length ≤ 9 := by omega
              simp [thinB, hx]
            have Hr := Lib.hid hr
            clear hr
            go_wp2_with fail
            go_ret
            exact ⟨by rw [Hr.out]; rfl, up_alloc up0 _⟩
        · have n2 : ¬ (L.rg.length : Int) ≤ 9 := by omega
          have hr : thinB L = false := by
            have hq := Hcl.out
            have hx : ¬ L.rg.length ≤ 9 := by omega
            simp [thinB, hx]
          have Hr := Lib.hid hr
          clear hr
          go_wp2_with fail
          go_ret
          exact ⟨by rw [Hr.out]; rfl, up_alloc up0 _⟩
      · have n1 : ¬ (L.st.length : Int) ≤ 9 := by omega
        have hr : thinB L = false := by
          have hq := Hcl.out
          have hx : ¬ L.st.length ≤ 9 := by omega
          simp [thinB, hx]
        have Hr := Lib.hid hr
        clear hr
        go_wp2_with fail
        go_ret
        exact ⟨by rw [Hr.out]; rfl, up_alloc up0 _⟩

end Go.Proofs.Ytojbdmdjepgpjaa
