/-
  Parts as keys of a map, and 'differ' of parts. Condition: a list of at most 1000.
-/
import Derived.Test.YtonekgefegfapaaGreatFw
import Derived.ChangeKeysEq
namespace Go.Proofs.YtonekgefegfapaaGreat
open Go.RowKit

/-- A part: five numbers. -/
structure P5 where
  a : Int
  b : Int
  c : Int
  d : Int
  e : Int
  deriving DecidableEq
def P5.cells (x : P5) : List Value := [iv x.a, iv x.b, iv x.c, iv x.d, iv x.e]
def P5.val (x : P5) : Value := .agg #[iv x.a, iv x.b, iv x.c, iv x.d, iv x.e]
def P5.same (x y : P5) : Bool := x.a == y.a && (x.b == y.b && (x.c == y.c && (x.d == y.d && x.e == y.e)))
theorem P5.same_iff {x y : P5} : x.same y = true ↔ x = y := by
  obtain ⟨a, b, c, d, e⟩ := x
  obtain ⟨a', b', c', d', e'⟩ := y
  simp [P5.same]
theorem cells3 : Tryz.prog.cellsOf 3 = 1 := by kernel_rfl
theorem eq_part' (d : Nat) (x y : P5) (w : World) : (Op.equalIn (d + 1 + 1) 167 x.val y.val).run Tryz.prog w = .ok (x.same y) w := by
  obtain ⟨i0, hi0, hz0, hz1, hz2⟩ := info_parts int_info
  unfold P5.val P5.same
  rw [run_equalIn_array w (d + 1) _ _ Tryz.underlying167 hi0, cells3]
  have p0 : ∀ (x1 x2 x3 x4 x5 : Int) (w : World), (part 3 #[iv x1, iv x2, iv x3, iv x4, iv x5] (0 * 1)).run Tryz.prog w = .ok (iv x1) w := fun _ _ _ _ _ _ => by kernel_rfl
  have p1 : ∀ (x1 x2 x3 x4 x5 : Int) (w : World), (part 3 #[iv x1, iv x2, iv x3, iv x4, iv x5] (1 * 1)).run Tryz.prog w = .ok (iv x2) w := fun _ _ _ _ _ _ => by kernel_rfl
  have p2 : ∀ (x1 x2 x3 x4 x5 : Int) (w : World), (part 3 #[iv x1, iv x2, iv x3, iv x4, iv x5] (2 * 1)).run Tryz.prog w = .ok (iv x3) w := fun _ _ _ _ _ _ => by kernel_rfl
  have p3 : ∀ (x1 x2 x3 x4 x5 : Int) (w : World), (part 3 #[iv x1, iv x2, iv x3, iv x4, iv x5] (3 * 1)).run Tryz.prog w = .ok (iv x4) w := fun _ _ _ _ _ _ => by kernel_rfl
  have p4 : ∀ (x1 x2 x3 x4 x5 : Int) (w : World), (part 3 #[iv x1, iv x2, iv x3, iv x4, iv x5] (4 * 1)).run Tryz.prog w = .ok (iv x5) w := fun _ _ _ _ _ _ => by kernel_rfl
  rw [show List.range 5 = [0, 1, 2, 3, 4] from rfl]
  simp only [Op.eqItems, Sem.run_bind, p0, Result.andThen_ok, eq_int]
  cases h1 : (x.a == y.a)
  · simp [go_sem]
  · simp only [Bool.not_true, Bool.false_eq_true, if_false, Sem.run_bind, p1, Result.andThen_ok, eq_int]
    cases h2 : (x.b == y.b)
    · simp [go_sem]
    · simp only [Bool.not_true, Bool.false_eq_true, if_false, Sem.run_bind, p2, Result.andThen_ok, eq_int]
      cases h3 : (x.c == y.c)
      · simp [go_sem]
      · simp only [Bool.not_true, Bool.false_eq_true, if_false, Sem.run_bind, p3, Result.andThen_ok, eq_int]
        cases h4 : (x.d == y.d)
        · simp [go_sem]
        · simp only [Bool.not_true, Bool.false_eq_true, if_false, Sem.run_bind, p4, Result.andThen_ok, eq_int]
          cases h5 : (x.e == y.e) <;> simp [go_sem]
theorem eq_part (x y : P5) (w : World) : (Op.equal 167 x.val y.val).run Tryz.prog w = .ok (x.same y) w := eq_part' 9998 x y w
theorem find_part (w : World) (x : P5) : ∀ (es : List MapEntry) (ks : List P5) (i : Nat), es.map (fun e => (e.key, e.val)) = ks.map (fun x => (x.val, Value.bool true)) → ∃ r, (Instr.findAsking 167 x.val es i).run Tryz.prog w = .ok r w ∧ r.map (·.2) = if x ∈ ks then some (Value.bool true) else none
  | [], [], i, _ => ⟨none, by simp [Instr.findAsking], rfl⟩
  | e :: es, k :: ks, i, h => by
    simp only [List.map_cons, List.cons.injEq, Prod.mk.injEq] at h
    obtain ⟨⟨hk, hv⟩, h⟩ := h
    unfold Instr.findAsking
    simp only [Sem.run_bind, hk, eq_part, Result.andThen_ok]
    by_cases hx : x = k
    · rw [P5.same_iff.2 hx]
      exact ⟨some (i, e.val), by simp, by simp [hx, hv]⟩
    · have hb : x.same k = false := by
        cases hq : x.same k with
        | true => exact absurd (P5.same_iff.1 hq) hx
        | false => rfl
      rw [hb]
      obtain ⟨r, hr, hr2⟩ := find_part w x es ks (i + 1) h
      exact ⟨r, by simpa using hr, by rw [hr2]; simp [hx]⟩
theorem part_key : KeySpec 167 P5.val :=
  ⟨fun w x es ks h => by
    unfold Instr.findKey
    simp only [Sem.run_bind, run_underlying Tryz.underlying167, Result.andThen_ok]
    cases es with
    | nil =>
      cases ks with
      | nil => exact ⟨none, by simp [Instr.findNow], rfl⟩
      | cons y ks => simp at h
    | cons e es =>
      cases ks with
      | nil => simp at h
      | cons y ks =>
        have hk : e.key = y.val := by
          simp only [List.map_cons, List.cons.injEq, Prod.mk.injEq] at h
          exact h.1.1
        rw [show Instr.findNow _ x.val (e :: es) 0 = none by unfold Instr.findNow; rw [hk]; rfl]
        exact find_part w x (e :: es) (y :: ks) 0 h, fun _ _ _ => by kernel_rfl⟩
theorem und186 : Tryz.prog.underlying 186 = some (.map 167 4) := by kernel_rfl
set_option maxRecDepth 100000 in
set_option maxHeartbeats 1500000 in
theorem differ_parts (v : Value) (l : List P5) (w : World) (hl : RowsAt w v 5 P5.cells l) : Calls Tryz.prog 121 #[v] w fun e w' => e = .returned (.bool (decide l.Nodup)) ∧ Below w.heap.size w w' := by
  obtain ⟨hlen, A, cap, hv, hcap, hmax⟩ := hl.form
  subst hv
  clear hcap hmax
  have hmm := @run_makeMap Tryz.prog
  go_enter Tryz.func121, Tryz.ntmps121
  go_wp2_with fail
  go_loopw [9] (fun i wr => ∃ k : Nat, k ≤ l.length ∧ i = iv k ∧ Hid ((l.take k).Nodup) ∧ Hid (SetAt P5.val wr w.heap.size (l.take k)) ∧ Below w.heap.size w wr) (fun i _ => l.length - (intOf i).toNat)
  case atStart => exact ⟨0, by omega, rfl, Lib.hid (by simp), Lib.hid (SetAt.new rfl), up_alloc up0 _⟩
  case round =>
    clear hmm
    obtain ⟨k, hk, rfl, HN, HS, hB⟩ := hrel
    by_cases hlt : k < l.length
    · obtain ⟨x, hx⟩ : ∃ x, l[k]? = some x := ⟨_, List.getElem?_eq_getElem hlt⟩
      obtain ⟨b, off, rfl, hb, hc⟩ := (hl.kept hB).at rfl hx
      have Hx := Lib.hid hx
      have q0 : wr.cell? ⟨b, off + k * 5, none⟩ = some (iv x.a) := hc 0 _ rfl
      have q1 : wr.cell? ⟨b, off + k * 5 + 1, none⟩ = some (iv x.b) := hc 1 _ rfl
      have q2 : wr.cell? ⟨b, off + k * 5 + 2, none⟩ = some (iv x.c) := hc 2 _ rfl
      have q3 : wr.cell? ⟨b, off + k * 5 + 3, none⟩ = some (iv x.d) := hc 3 _ rfl
      have q4 : wr.cell? ⟨b, off + k * 5 + 4, none⟩ = some (iv x.e) := hc 4 _ rfl
      have HS1 := HS.out.kept (w' := wr.alloc (.cells #[iv x.a, iv x.b, iv x.c, iv x.d, iv x.e] 167)) (up_alloc up0 _)
      have hB1 := up_alloc hB (.cells #[iv x.a, iv x.b, iv x.c, iv x.d, iv x.e] 167)
      have N := Box.new (w := wr) (t := 167) (cs := #[iv x.a, iv x.b, iv x.c, iv x.d, iv x.e]) rfl
      have cN := fun i => N.cell i
      have hr := run_has und186 part_key HS1 x
      unfold P5.val at hr
      clear hx hc
      by_cases hm : x ∈ l.take k
      · have Hr := Lib.hid (show false = decide l.Nodup from (decide_eq_false (not_nodup Hx.out hm)).symm)
        rw [decide_eq_true hm] at hr
        clear hm HS1
        go_wp2_with fail
        go_ret
        exact ⟨ret_bool Hr.out, hB1⟩
      · obtain ⟨w', hu, hs', hg⟩ := run_add und186 part_key HS1 x hm
        have HN' := Lib.hid (nodup_take Hx.out HN.out hm)
        have HS' : Hid (SetAt P5.val w' w.heap.size (l.take (k + 1))) := Lib.hid (by rw [List.take_add_one, Hx.out]; exact hs')
        have HB' := Lib.hid (below_grown hB1 hg (Nat.le_refl _) (Nat.le_refl _))
        rw [decide_eq_false hm] at hr
        unfold P5.val at hu
        clear hm hs' hg HS1
        go_wp2_with fail
        go_roundw
        case rel => exact ⟨k + 1, by omega, by go_num, HN', HS', HB'.out⟩
        case measure => simp [intOf]; omega
    · have hN := HN.out
      rw [List.take_of_length_le (by omega)] at hN
      have Hr := Lib.hid (show true = decide l.Nodup from (decide_eq_true hN).symm)
      clear hN
      go_wp2_with fail
      go_ret
      exact ⟨ret_bool Hr.out, hB⟩
end Go.Proofs.YtonekgefegfapaaGreat
