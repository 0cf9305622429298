/-
  WALKS of allKinds, newLines, (lines).end and (lines).after. Conditions: the place lies in both strings.
-/
import Derived.Test.YtonekgefegfapaaGreatFb
import Derived.Deep.CutBlock
import Derived.Deep.WholeRow
namespace Go.Proofs.YtonekgefegfapaaGreat
open Go.RowKit

section
variable {P : Program}
theorem wpList_store_new {ops : Array Oper} {rest : List Oper} {o : Oper} {a : Act} {Q : Exit → Act → World → Prop} {w : World} (hgd : o.guard = none) (ty : TypeId) (x y : Operand) (ho : o.op = .store ty x y)
    (old cells : Array Value) (t : TypeId) (hx : a.eval x = .pointer (some ⟨w.heap.size, 0, none⟩)) (hy : a.eval y = .agg cells) (hi : (P.info? ty).map (·.size) = some cells.size) (hold : old.size = cells.size) (h1 : cells.all (·.oneCell') = true)
    (h : wpList P ops Q rest (a.put o.dst undef) (w.alloc (.cells cells t))) : wpList P ops Q (o :: rest) a (w.alloc (.cells old t)) :=
  wpList_plain hgd fun K hK => wp_store_row ty x y ho _ cells hx hy t old (heap_alloc_last w _) hi hold h1 (hK _ _ (by rw [World.setRow_alloc_new]; exact h))
theorem results_cell {fn : Func} {c ty g t : Nat} {tm : Array Value} {w : World} {cs : Array Value} {d : TypeDesc} (hf : fn.results = #[.cell c ty]) (ha : tm[c]?.getD undef = .pointer (some ⟨g, 0, none⟩)) (hb : Box w g t cs) (hu : P.underlying ty = some d)
    (hd : (match d with | .struct _ | .array _ _ => true | _ => false) = true) (hi : (P.info? ty).map (·.size) = some cs.size) : (results fn tm).run P w = .ok (.agg cs) w := by
  have hl := run_loadVar_row (P := P) w g t ty cs (0, 0) d hb hu hd hi
  simp [results, hf, ha, asAddr, hl]
theorem results_cell_tmp {fn : Func} {c ty g t e : Nat} {tm : Array Value} {w : World} {cs : Array Value} {d : TypeDesc} {v : Value} (hf : fn.results = #[.cell c ty, .tmp e]) (ha : tm[c]?.getD undef = .pointer (some ⟨g, 0, none⟩)) (he : tm[e]?.getD undef = v) (hb : Box w g t cs) (hu : P.underlying ty = some d)
    (hd : (match d with | .struct _ | .array _ _ => true | _ => false) = true) (hi : (P.info? ty).map (·.size) = some cs.size) : (results fn tm).run P w = .ok (.tuple #[.agg cs, v]) w := by
  have hl := run_loadVar_row (P := P) w g t ty cs (0, 0) d hb hu hd hi
  simp [results, hf, ha, he, asAddr, hl]
end
def fnV (f : Nat) : Value := .func (.func f) #[] #[]
/-- The kinds of steps, as they lie in memory. -/
def kindsC : Array Value := #[fnV 102, fnV 103, iv 1, iv 0, fnV 104, fnV 105, iv 1, iv 1, fnV 106, fnV 107, iv 1, iv 1, fnV 108, fnV 109, iv 2, iv 1, fnV 110, fnV 105, iv 1, iv 1, fnV 111, fnV 112, iv 0, iv 1]
set_option maxRecDepth 100000 in
set_option maxHeartbeats 400000 in
theorem allKinds_any (w : World) : Calls Tryz.prog 84 #[] w fun e w' => e = .returned (.agg kindsC) ∧ Below w.heap.size w w' := by
  go_enter Tryz.func84, Tryz.ntmps84
  go_wp2_with (refine wpList_store_new rfl 135 (.tmp 0) (.tmp 7) rfl _ kindsC 135 rfl rfl (by kernel_rfl) (by kernel_rfl) (by kernel_rfl) ?_)
  exact bodyPost_ret (v := .agg kindsC) (results_cell rfl rfl (Box.new rfl) (d := .array 6 133) (by kernel_rfl) rfl (by kernel_rfl)) rfl ⟨rfl, up_alloc up0 _⟩
end Go.Proofs.YtonekgefegfapaaGreat
