/-
  WALKS of '(Land).apart', '(Land).exceeds', '(Land).valid' and CheckLand. Conditions: lists have at most 1000 elements.
-/
import Derived.Test.YtojbdmdjepgpjaaMp
namespace Go.Proofs.Ytojbdmdjepgpjaa
open Go.RowKit

def seen (l : List St) : List ((Int × Int) × Value) := l.map fun s => ((s.x, s.y), .bool true)
theorem look_seen (a b : Int) : ∀ l : List St, look (seen l) a b = if (a, b) ∈ l.map (fun s => (s.x, s.y)) then some (.bool true) else none
  | [] => rfl
  | s :: l => by
    have ih := look_seen a b l
    unfold look seen at ih ⊢
    simp only [List.map_cons, List.find?]
    by_cases h : (s.x, s.y) = (a, b)
    · simp [h]
    · have h' : ((s.x, s.y) == (a, b)) = false := by simpa using h
      rw [h']
      simp only
      rw [ih]
      simp only [List.mem_cons]
      by_cases h2 : (a, b) ∈ l.map fun s => (s.x, s.y)
      · rw [if_pos h2, if_pos (Or.inr h2)]
      · rw [if_neg h2, if_neg (fun h3 => h3.elim (fun h4 => h h4.symm) h2)]
theorem seen_snoc (l : List St) (s : St) : seen (l ++ [s]) = seen l ++ [((s.x, s.y), .bool true)] := by simp [seen]
theorem nodup_take {l : List St} {k : Nat} {s : St} (hs : l[k]? = some s) (h : ((l.take k).map fun s => (s.x, s.y)).Nodup) (hn : (s.x, s.y) ∉ (l.take k).map fun s => (s.x, s.y)) : ((l.take (k + 1)).map fun s => (s.x, s.y)).Nodup := by
  rw [List.take_add_one, hs]
  simp only [Option.toList_some, List.map_append, List.map_cons, List.map_nil]
  exact List.nodup_append.2 ⟨h, by simp, fun a ha b hb => by
    have : b = (s.x, s.y) := by simpa using hb
    subst this
    intro e
    subst e
    exact hn ha⟩
theorem not_apart {l : List St} {k : Nat} {s : St} (hs : l[k]? = some s) (hn : (s.x, s.y) ∈ (l.take k).map fun s => (s.x, s.y)) : apartB l = false := by
  unfold apartB
  simp only [decide_eq_false_iff_not]
  intro h
  have hsplit : l = l.take k ++ s :: l.drop (k + 1) := by
    have hk : k < l.length := (List.getElem?_eq_some_iff.1 hs).1
    have he : l[k] = s := (List.getElem?_eq_some_iff.1 hs).2
    rw [← he, ← List.drop_eq_getElem_cons hk, List.take_append_drop]
  rw [hsplit, List.map_append, List.map_cons] at h
  have := (List.nodup_append.1 h).2.2 _ hn _ (List.mem_cons_self ..)
  exact this rfl

set_option maxRecDepth 100000 in
set_option maxHeartbeats 2000000 in
theorem apart_any (v1 v2 v3 v4 : Value) (L : Ld) (c : List (Value × List Cl)) (w : World) (hL : LandAt w v1 v2 v3 v4 L c) :
    Calls Try.prog 71 #[.agg #[v1, v2, v3, v4]] w fun e w' => e = .returned (.bool (apartB L.st)) ∧ Below w.heap.size w w' := by
  obtain ⟨hlen, A, cap, rfl, _, _⟩ := hL.st.form
  obtain ⟨_, A2, cap2, rfl, _, _⟩ := hL.rg.form
  obtain ⟨_, A3, cap3, rfl, _, _⟩ := hL.cs.form
  obtain ⟨_, A4, cap4, rfl, _, _⟩ := hL.sn.form
  have hmm := @run_makeMap Try.prog
  have hst := hL.st
  clear hL
  go_enter Try.func71, Try.ntmps71
  go_wp2
  clear hmm
  go_loopw [10] (fun i wr => ∃ k : Nat, k ≤ L.st.length ∧ i = .int .i64 k ∧ Hid (((L.st.take k).map fun s => (s.x, s.y)).Nodup) ∧ MapAt wr (w.heap.size + 1) (seen (L.st.take k)) ∧ Below w.heap.size w wr) (fun i _ => L.st.length - (intOf i).toNat)
  case atStart => exact ⟨0, by omega, rfl, by simp [Hid], MapAt.new (by simp), up_alloc (up_alloc up0 _) _⟩
  case round =>
    obtain ⟨k, hk, rfl, hnd, hM, hB⟩ := hrel
    by_cases hlt : k < L.st.length
    · obtain ⟨s, hs⟩ : ∃ s, L.st[k]? = some s := ⟨_, List.getElem?_eq_getElem hlt⟩
      obtain ⟨b, off, rfl, hb, hc⟩ := (hst.kept hB).at rfl hs
      have Hs := Lib.hid hs
      clear hs
      have q0 : wr.cell? ⟨b, off + k * 4, none⟩ = some (.int .i64 s.x) := hc 0 _ rfl
      have q1 : wr.cell? ⟨b, off + k * 4 + 1, none⟩ = some (.int .i64 s.y) := hc 1 _ rfl
      have q2 : wr.cell? ⟨b, off + k * 4 + 2, none⟩ = some (.int .i64 s.z) := hc 2 _ rfl
      have q3 : wr.cell? ⟨b, off + k * 4 + 3, none⟩ = some (.int .i64 s.m) := hc 3 _ rfl
      clear hc
      have hBx := Box.new (w := wr) (t := 66) (cs := #[iv s.x, iv s.y, iv s.z, iv s.m]) rfl
      go_wp2_with fail
      refine (place_any _ _ _ _ _).mono ?_
      rintro e w1 ⟨rfl, hb1⟩
      have hM1 := (hM.kept (up_alloc up0 (.cells #[iv s.x, iv s.y, iv s.z, iv s.m] 66))).kept hb1
      have hB1 := up_later (up_alloc hB (.cells #[iv s.x, iv s.y, iv s.z, iv s.m] 66)) hb1
      have hBx := Box.later hb1 hBx
      have hl := run_lookup (T := 155) (E := 4) Try.underlying155 place_key (z := .bool false) (fun _ => by kernel_rfl) hM1 s.x s.y false
      rw [look_seen] at hl
      by_cases hin : (s.x, s.y) ∈ (L.st.take k).map fun s => (s.x, s.y)
      · rw [if_pos hin] at hl
        have Hin := Lib.hid hin
        clear hin
        simp only [Bool.false_eq_true, if_false, Option.getD_some] at hl
        clear hBx
        go_wp2
        go_ret
        exact ⟨ret_bool (not_apart Hs.out Hin.out).symm, hB1⟩
      · rw [if_neg hin] at hl
        have hnew : look (seen (L.st.take k)) s.x s.y = none := by rw [look_seen, if_neg hin]
        have Hin := Lib.hid hin
        have Hnew := Lib.hid hnew
        clear hin hnew
        simp only [Bool.false_eq_true, if_false, Option.getD_none] at hl
        have cx := fun i => hBx.cell i
        go_wp2_with fail
        refine (place_any _ _ _ _ _).mono ?_
        rintro e w2 ⟨rfl, hb2⟩
        obtain ⟨w3, hup, hM3, hg⟩ := run_update (T := 155) (E := 4) Try.underlying155 place_key (hM1.kept hb2) s.x s.y (.bool true) Hnew.out
        clear cx
        go_wp2
        go_roundw
        case rel =>
          refine ⟨k + 1, by omega, by go_num, nodup_take Hs.out hnd.out Hin.out, ?_, (up_later hB1 hb2).grown hg (up_later hB1 hb2).size (fun r hr => by cases hr; omega)⟩
          rw [List.take_add_one, Hs.out, Option.toList_some, seen_snoc]
          exact hM3
        case measure => simp [intOf]; omega
    · go_wp2
      go_ret
      exact ⟨ret_bool (by have h := hnd.out; rw [List.take_of_length_le (by omega)] at h; unfold apartB; simp [h]), hB⟩

end Go.Proofs.Ytojbdmdjepgpjaa
