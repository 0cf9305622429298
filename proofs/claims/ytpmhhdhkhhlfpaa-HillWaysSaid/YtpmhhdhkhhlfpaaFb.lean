/-
  PLAIN: what a region leaves of slices.All's and blocking's values; the ridges by their numbers.
-/
import Derived.Test.YtpmhhdhkhhlfpaaCw
import Derived.Test.YtpmhhdhkhhlfpaaSy
namespace Go.Proofs.Ytpmhhdhkhhlfpaa
open Go.RowKit

/-- The value of slices.All, with its box; that of blocking over it, with all boxes. -/
def Fact.all (gf : Nat) (v2 : Value) : Fact := ⟨fun v w => ∃ g, v = .func (.func gf) #[] #[.pointer (some ⟨g, 0, none⟩)] ∧ Box w g 33 #[v2], fun _ _ _ ⟨g, h, hb⟩ h' => ⟨g, h, hb.kept h'⟩, false, fun _ _ h => by cases h⟩
def Fact.bl (gb gf : Nat) (s t : St) (v2 : Value) : Fact := ⟨fun v w => ∃ B1 B2 g, v = .func (.func gb) #[] #[.pointer (some ⟨B2, 0, none⟩), .pointer (some ⟨B1, 0, none⟩)] ∧ Box w B1 112 #[iv s.x, iv s.y, iv s.z, iv s.m, iv t.x, iv t.y, iv t.z, iv t.m] ∧ Box w B2 138 #[.func (.func gf) #[] #[.pointer (some ⟨g, 0, none⟩)]] ∧ Box w g 33 #[v2],
  fun _ _ _ ⟨B1, B2, g, h, h1, h2, h3⟩ h' => ⟨B1, B2, g, h, h1.kept h', h2.kept h', h3.kept h'⟩, false, fun _ _ h => by cases h⟩
theorem ridges_eq {L : Ld} {i j : Nat} {s t : St} (hi : L.st[i]? = some s) (hj : L.st[j]? = some t) : ((List.range L.rg.length).filter fun k => blocksW s t (wAt L.rg k)).map (fun x => iv (x : Nat)) = (ridgesI L i j).map iv := by
  unfold ridgesI whichB
  rw [List.map_map]
  have : (List.range L.rg.length).filter (fun k => blocksW s t (wAt L.rg k)) = (List.range L.rg.length).filter (fun k => (L.rg[k]?.map (blocksW (stAt L i) (stAt L j))).getD false) := by
    refine List.filter_congr fun k hk => ?_
    have hlt := List.mem_range.1 hk
    simp [wAt, stAt, hi, hj, List.getElem?_eq_getElem hlt]
  rw [this]
  rfl
theorem ridgesI_length (L : Ld) (i j : Int) : (ridgesI L i j).length ≤ L.rg.length := whichB_length _ _

end Go.Proofs.Ytpmhhdhkhhlfpaa
