/-
  PLAIN: the end of a law's proof, where of the world behind the call 'Below' is known. No function of the program is named.
-/
import Derived.Test.YtonekgefegfapaaGreatRows
import Derived.WalkKit
import Derived.ProofKit
import Derived.OpenShut
import Derived.Below
namespace Go.Proofs.YtonekgefegfapaaGreat
open Go.ChangeShapes Go.WideShapes Go.ChangeAt Go.RowKit

/-- What a law that answers and leaves all old blocks alone owes: its answer, and its arguments as they read. -/
theorem post_below {H : Type} {enc : TypeId × Value → H} {P : Program} {f : Func} {s : ChangeSpec} {apart fresh handsOn again : Bool} {W W' : World} {args : Array Value} {v : Value} {ds gs : List (DataW H)} {before pa pv : List MemPlace}
    (hW : DataW.Whole enc P f.params.toList s.vars apart W args.toList ds gs before) (hb : Below W.heap.size W W')
    (hres : ∀ (b : Nat) (sp : Nat → Bool) (hd : Bool), DataW.TrodAll enc P W' b sp hd f.resultTypes.toList (v.resultList f.resultTypes.size) (s.fn H (ds ++ gs)).results [])
    (hargs : ∀ sp : Nat → Bool, (∀ p ∈ before, sp p.block = true) → DataW.TrodAll enc P W' 0 sp true f.params.toList args.toList (s.fn H (ds ++ gs)).args pa)
    (hvars : ∀ sp : Nat → Bool, (∀ p ∈ before, sp p.block = true) → DataW.TrodVars enc P W' sp s.vars (s.fn H (ds ++ gs)).vars pv) (hps : before = pa ++ pv)
    (hok : ∀ (j : Nat) (t : TypeId) (r : Value), f.resultTypes[j]? = some t → (v.resultList f.resultTypes.size)[j]? = some r → Value.okWide P W' .any 0 t r) : s.post enc P f apart fresh handsOn again W args v W' := by
  have hlt : ∀ p ∈ before, p.block < W.heap.size := fun p hp => hW.lt p hp
  have hkeep := World.keptBut_mono (w := W) (w' := W') (fun p (hp : p ∈ before) => show p ∈ before ∧ p ∈ [] ++ (pa ++ pv) from ⟨hp, by rw [List.nil_append, ← hps]; exact hp⟩) (hb.frame (· ∈ before))
  have h2 := hW
  obtain ⟨_, _, _, _, _, hz, hn⟩ := h2
  have hall : before = ([] ++ pa) ++ pv := by rw [hps, List.nil_append]
  refine ⟨ds, gs, before, [], pa, pv, hW, hres _ _ _, hargs _ (fun p hp => by simpa using hlt p hp), hvars _ (fun p hp => by simpa using hlt p hp), ?_, fun _ => ⟨hok, _, _, ([] ++ pa) ++ pv, ⟨[] ++ pa, pv, trodAll_append (hargs _ (fun _ _ => rfl)) (hres _ _ _), hvars _ (fun _ _ => rfl), rfl, fun b off hp => ?_, fun ha => ?_⟩, fun p hp _ => ?_⟩⟩
  · first | exact hkeep | simpa using hkeep
  · have hp' : MemPlace.cell b off ∈ before := by rw [hall]; exact hp
    have hf := hb.frozen (p := ⟨b, off, Option.none⟩) (hlt _ hp')
    rw [hf]
    exact hz b off hp'
  · have := hn ha
    rw [hall] at this
    simpa using this
  · rw [hps]
    simpa using hp

end Go.Proofs.YtonekgefegfapaaGreat
