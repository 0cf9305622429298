/-
  A map used as a set, and 'differ' of strings. Condition: a list of at most 1000.
-/
import Derived.Test.YtonekgefegfapaaGreatFp
import Derived.Test.YtonekgefegfapaaGreatFj
import Derived.MapKept
namespace Go.Proofs.YtonekgefegfapaaGreat
open Go.RowKit

/-- Block r is a map with just the keys ks, each true. -/
def SetAt {α : Type} (kv : α → Value) (w : World) (r : Nat) (ks : List α) : Prop :=
  ∃ es clock, w.heap[r]? = some (.map es clock) ∧ es.toList.map (fun e => (e.key, e.val)) = ks.map fun x => (kv x, Value.bool true)
section
variable {α : Type} {kv : α → Value} {w w' : World} {r : Nat} {ks : List α}
theorem SetAt.kept (h : SetAt kv w r ks) (hb : Below w.heap.size w w') : SetAt kv w' r ks := by
  obtain ⟨es, clock, h1, h2⟩ := h
  exact ⟨es, clock, (hb.block r (Array.getElem?_eq_some_iff.1 h1).1).trans h1, h2⟩
theorem SetAt.lt (h : SetAt kv w r ks) : r < w.heap.size := by
  obtain ⟨es, clock, h1, _⟩ := h
  exact (Array.getElem?_eq_some_iff.1 h1).1
theorem SetAt.new (h : r = w.heap.size) : SetAt kv (w.alloc (.map #[] 0)) r [] := by
  subst h
  exact ⟨#[], 0, heap_alloc_new w _, rfl⟩
end
instance bytesEq : DecidableEq ByteArray := fun a b => if h : (a == b) = true then isTrue ((Go.MapKept.bytes_beq a b).1 h) else isFalse fun e => h ((Go.MapKept.bytes_beq a b).2 e)
instance bytesLaw : LawfulBEq ByteArray := { eq_of_beq := fun h => (Go.MapKept.bytes_beq _ _).1 h, rfl := (Go.MapKept.bytes_beq _ _).2 rfl }
/-- What is found among keys of type K. -/
structure KeySpec {α : Type} [BEq α] [LawfulBEq α] (K : TypeId) (kv : α → Value) : Prop where
  find : ∀ (w : World) (x : α) (es : List MapEntry) (ks : List α), es.map (fun e => (e.key, e.val)) = ks.map (fun x => (kv x, Value.bool true)) → ∃ r, (Instr.findKey K (kv x) es).run Tryz.prog w = .ok r w ∧ r.map (·.2) = if x ∈ ks then some (Value.bool true) else none
  chk : ∀ e x w, (Instr.checkKey e 10000 K (kv x)).run Tryz.prog w = .ok () w
section
variable {α : Type} [BEq α] [LawfulBEq α] {K T : TypeId} {kv : α → Value} {w w' : World} {r : Nat} {ks : List α}
theorem run_has (hT : Tryz.prog.underlying T = some (.map K 4)) (hK : KeySpec K kv) (h : SetAt kv w r ks) (x : α) : (Instr.lookup T (.map (some r)) (kv x) false).run Tryz.prog w = .ok (.bool (decide (x ∈ ks))) w := by
  obtain ⟨es, clock, hb, hm⟩ := h
  obtain ⟨y, hy, hy2⟩ := hK.find w x es.toList ks hm
  have hg : (getObj r).run Tryz.prog w = .ok (.map es clock) w := by simp [getObj, Sem.run, hb]
  have hz : (zeroValue 4).run Tryz.prog w = .ok (.bool false) w := by kernel_rfl
  unfold Instr.lookup
  simp only [Sem.run_bind, run_underlying hT, Result.andThen_ok, hg, Sem.run_pure, hK.chk, hy]
  by_cases hx : x ∈ ks
  · rw [if_pos hx] at hy2
    cases y with
    | none => simp at hy2
    | some p => obtain ⟨i, v⟩ := p; obtain rfl : v = .bool true := by simpa using hy2
                simp [hx]
  · rw [if_neg hx] at hy2
    cases y with
    | none => simp [hz, hx]
    | some p => simp at hy2
theorem run_add (hT : Tryz.prog.underlying T = some (.map K 4)) (hK : KeySpec K kv) (h : SetAt kv w r ks) (x : α) (hn : x ∉ ks) :
    ∃ w', (Instr.mapUpdate T (.map (some r)) (kv x) (.bool true)).run Tryz.prog w = .ok () w' ∧ SetAt kv w' r (ks ++ [x]) ∧ w.grownBy w' (some r) := by
  obtain ⟨es, clock, hb, hm⟩ := h
  obtain ⟨y, hy, hy2⟩ := hK.find w x es.toList ks hm
  rw [if_neg hn] at hy2
  have hyn : y = none := by
    cases y with
    | none => rfl
    | some p => simp at hy2
  subst hyn
  have hlt : r < w.heap.size := (Array.getElem?_eq_some_iff.1 hb).1
  refine ⟨{ w with heap := w.heap.setIfInBounds r (.map (es.push { key := kv x, val := .bool true, born := clock }) (clock + 1)) }, ?_, ?_, ?_⟩
  · have hg : (getObj r).run Tryz.prog w = .ok (.map es clock) w := by simp [getObj, Sem.run, hb]
    unfold Instr.mapUpdate
    simp only [Sem.run_bind, run_underlying hT, Result.andThen_ok, hg, hK.chk, hy]
    simp [setObj, Sem.run, hb]
  · refine ⟨es.push { key := kv x, val := .bool true, born := clock }, clock + 1, by simp [hlt], ?_⟩
    simp [hm]
  · exact ⟨rfl, rfl, rfl, by simp, fun i hi hne => by
      have : r ≠ i := fun e => hne (by rw [e])
      simp [Array.getElem?_setIfInBounds_ne this]⟩
end
theorem find_str (x : ByteArray) : ∀ (es : List MapEntry) (ks : List ByteArray) (i : Nat), es.map (fun e => (e.key, e.val)) = ks.map (fun x => (sv x, Value.bool true)) → ∃ r, Instr.findNow .string (sv x) es i = some r ∧ r.map (·.2) = if x ∈ ks then some (Value.bool true) else none
  | [], [], i, _ => ⟨none, rfl, rfl⟩
  | e :: es, k :: ks, i, h => by
    simp only [List.map_cons, List.cons.injEq, Prod.mk.injEq] at h
    obtain ⟨⟨hk, hv⟩, h⟩ := h
    unfold Instr.findNow
    rw [hk]
    by_cases hx : x = k
    · subst hx
      have hb : Instr.sameNow .string (sv x) (sv x) = some true := by
        show some (x == x) = some true
        rw [(Go.MapKept.bytes_beq x x).2 rfl]
      rw [hb]
      exact ⟨_, rfl, by simp [hv]⟩
    · have hb : Instr.sameNow .string (sv x) (sv k) = some false := by
        show some (x == k) = some false
        cases hq : (x == k) with
        | true => exact absurd ((Go.MapKept.bytes_beq x k).1 hq) hx
        | false => rfl
      rw [hb]
      obtain ⟨r, hr, hr2⟩ := find_str x es ks (i + 1) h
      exact ⟨r, hr, by rw [hr2]; simp [hx]⟩
theorem str_key : KeySpec 9 sv :=
  ⟨fun w x es ks h => by
    obtain ⟨r, hr, hr2⟩ := find_str x es ks 0 h
    exact ⟨r, Go.MapKept.run_findKey Tryz.underlying9 hr, hr2⟩, fun _ _ _ => by kernel_rfl⟩
theorem und154 : Tryz.prog.underlying 154 = some (.map 9 4) := by kernel_rfl
theorem nodup_take {α : Type} {l : List α} {k : Nat} {x : α} (hx : l[k]? = some x) (h : (l.take k).Nodup) (hn : x ∉ l.take k) : (l.take (k + 1)).Nodup := by
  rw [List.take_add_one, hx]
  simp only [Option.toList_some]
  rw [List.nodup_append]
  exact ⟨h, by simp, fun a ha b hb e => by
    obtain rfl := List.mem_singleton.1 hb
    exact hn (e ▸ ha)⟩
theorem not_nodup {α : Type} {l : List α} {k : Nat} {x : α} (hx : l[k]? = some x) (hn : x ∈ l.take k) : ¬ l.Nodup := fun h => by
  obtain ⟨i, hi⟩ := List.getElem?_of_mem hn
  have hik : i < k := by
    have := (List.getElem?_eq_some_iff.1 hi).1
    rw [List.length_take] at this
    omega
  rw [List.getElem?_take, if_pos hik] at hi
  have := (List.getElem?_inj (i := i) (j := k) (by have := (List.getElem?_eq_some_iff.1 hi).1; exact this) h).1 (hi.trans hx.symm)
  omega
set_option maxRecDepth 100000 in
set_option maxHeartbeats 1000000 in
theorem differ_strs (v : Value) (l : List ByteArray) (w : World) (hl : RowsAt w v 1 sc l) : Calls Tryz.prog 76 #[v] w fun e w' => e = .returned (.bool (decide l.Nodup)) ∧ Below w.heap.size w w' := by
  obtain ⟨hlen, A, cap, hv, hcap, hmax⟩ := hl.form
  subst hv
  clear hcap hmax
  have hmm := @run_makeMap Tryz.prog
  go_enter Tryz.func76, Tryz.ntmps76
  go_wp2_with fail
  go_loopw [9] (fun i wr => ∃ k : Nat, k ≤ l.length ∧ i = iv k ∧ Hid ((l.take k).Nodup) ∧ Hid (SetAt sv wr w.heap.size (l.take k)) ∧ Below w.heap.size w wr) (fun i _ => l.length - (intOf i).toNat)
  case atStart => exact ⟨0, by omega, rfl, Lib.hid (by simp), Lib.hid (SetAt.new rfl), up_alloc up0 _⟩
  case round =>
    clear hmm
    obtain ⟨k, hk, rfl, HN, HS, hB⟩ := hrel
    by_cases hlt : k < l.length
    · obtain ⟨x, hx⟩ : ∃ x, l[k]? = some x := ⟨_, List.getElem?_eq_getElem hlt⟩
      obtain ⟨b, off, rfl, hb, hc⟩ := (hl.kept hB).at rfl hx
      have Hx := Lib.hid hx
      clear hx
      have q0 : wr.cell? ⟨b, off + k, none⟩ = some (sv x) := by simpa using hc 0 _ rfl
      have hr := run_has und154 str_key HS.out x
      by_cases hm : x ∈ l.take k
      · have Hr := Lib.hid (show false = decide l.Nodup from (decide_eq_false (not_nodup Hx.out hm)).symm)
        rw [decide_eq_true hm] at hr
        clear hc hm
        go_wp2_with fail
        go_ret
        exact ⟨ret_bool Hr.out, hB⟩
      · obtain ⟨w', hu, hs', hg⟩ := run_add und154 str_key HS.out x hm
        have HN' := Lib.hid (nodup_take Hx.out HN.out hm)
        have HS' : Hid (SetAt sv w' w.heap.size (l.take (k + 1))) := Lib.hid (by rw [List.take_add_one, Hx.out]; exact hs')
        have HB' := Lib.hid (below_grown hB hg (Nat.le_refl _) (Nat.le_refl _))
        rw [decide_eq_false hm] at hr
        clear hc hm hs' hg
        go_wp2_with fail
        go_roundw
        case rel => exact ⟨k + 1, by omega, by go_num, HN', HS', HB'.out⟩
        case measure => simp [intOf]; omega
    · have hN := HN.out
      rw [List.take_of_length_le (by omega)] at hN
      have Hr := Lib.hid (show true = decide l.Nodup from (decide_eq_true hN).symm)
      clear hN
      go_wp2_with fail
      go_ret
      exact ⟨ret_bool Hr.out, hB⟩
end Go.Proofs.YtonekgefegfapaaGreat
