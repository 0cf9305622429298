/-
  PLAIN: a wall blocks both ways.
  PLAIN: what a region leaves of slices.All's and blocking's values; the ridges by their numbers.
  PLAIN: how a land at work lasts while its map of ridges grows; no function of the program is named.
-/
import Derived.Test.YtojbdmdjepgpjaaOp
import Derived.Test.YtojbdmdjepgpjaaCw
namespace Go.Proofs.Ytojbdmdjepgpjaa

theorem sideI_back (ax ay bx b_y px py : Int) : sideI bx b_y ax ay px py = - sideI ax ay bx b_y px py := by unfold sideI; grind
theorem crossB_back (ax ay bx b_y x1 y1 x2 y2 : Int) : crossB bx b_y ax ay x1 y1 x2 y2 = crossB ax ay bx b_y x1 y1 x2 y2 := by
  unfold crossB
  rw [sideI_back ax ay bx b_y, sideI_back ax ay bx b_y, Int.mul_comm (sideI x1 y1 x2 y2 bx b_y), Int.neg_mul_neg]
theorem blockI_back (ax ay az bx b_y bz x1 y1 x2 y2 b t : Int) : blockI bx b_y bz ax ay az x1 y1 x2 y2 b t = blockI ax ay az bx b_y bz x1 y1 x2 y2 b t := by
  have hp : overP bx b_y bz ax ay az x1 y1 x2 y2 = overP ax ay az bx b_y bz x1 y1 x2 y2 := by unfold overP; rw [crossB_back, Int.add_comm]
  have hq : overQ bx b_y ax ay x1 y1 x2 y2 = overQ ax ay bx b_y x1 y1 x2 y2 := by unfold overQ; rw [crossB_back, Int.add_comm]
  unfold blockI
  rw [hp, hq, crossB_back]
theorem blocksW_back (a b : St) (x : Wl) : blocksW b a x = blocksW a b x := blockI_back _ _ _ _ _ _ _ _ _ _ _ _
theorem ridgesI_back (L : Ld) (a b : Int) : ridgesI L b a = ridgesI L a b := by
  unfold ridgesI
  congr 1
  funext x
  exact blocksW_back _ _ x
theorem ridgesI_sort (L : Ld) (a b : Int) : ridgesI L (min a b) (max a b) = ridgesI L a b := by
  by_cases h : a ≤ b
  · rw [Int.min_eq_left h, Int.max_eq_right h]
  · rw [Int.min_eq_right (by omega), Int.max_eq_left (by omega), ridgesI_back]

end Go.Proofs.Ytojbdmdjepgpjaa

namespace Go.Proofs.Ytojbdmdjepgpjaa
open Go.RowKit

/-- The value of slices.All, with its box; that of blocking over it, with all boxes. -/
def Fact.all (gf : Nat) (v2 : Value) : Fact := ⟨fun v w => ∃ g, v = .func (.func gf) #[] #[.pointer (some ⟨g, 0, none⟩)] ∧ Box w g 33 #[v2], fun _ _ _ ⟨g, h, hb⟩ h' => ⟨g, h, hb.kept h'⟩, false, fun _ _ h => by cases h⟩
def Fact.bl (gb gf : Nat) (s t : St) (v2 : Value) : Fact := ⟨fun v w => ∃ B1 B2 g, v = .func (.func gb) #[] #[.pointer (some ⟨B2, 0, none⟩), .pointer (some ⟨B1, 0, none⟩)] ∧ Box w B1 111 #[iv s.x, iv s.y, iv s.z, iv s.m, iv t.x, iv t.y, iv t.z, iv t.m] ∧ Box w B2 137 #[.func (.func gf) #[] #[.pointer (some ⟨g, 0, none⟩)]] ∧ Box w g 33 #[v2],
  fun _ _ _ ⟨B1, B2, g, h, h1, h2, h3⟩ h' => ⟨B1, B2, g, h, h1.kept h', h2.kept h', h3.kept h'⟩, false, fun _ _ h => by cases h⟩
theorem ridges_eq {L : Ld} {i j : Nat} {s t : St} (hi : L.st[i]? = some s) (hj : L.st[j]? = some t) : ((List.range L.rg.length).filter fun k => blocksW s t (wAt L.rg k)).map (fun x => iv (x : Nat)) = (ridgesI L i j).map iv := by
  unfold ridgesI whichB
  rw [List.map_map]
  have : (List.range L.rg.length).filter (fun k => blocksW s t (wAt L.rg k)) = (List.range L.rg.length).filter (fun k => (L.rg[k]?.map (blocksW (stAt L i) (stAt L j))).getD false) := by
    refine List.filter_congr fun k hk => ?_
    have hlt := List.mem_range.1 hk
    simp [wAt, stAt, hi, hj, List.getElem?_eq_getElem hlt]
  rw [this]
  rfl
theorem ridgesI_length (L : Ld) (i j : Int) : (ridgesI L i j).length ≤ L.rg.length := whichB_length _ _

end Go.Proofs.Ytojbdmdjepgpjaa

namespace Go.Proofs.Ytojbdmdjepgpjaa
open Go.RowKit

section
variable {w w' w1 : World} {gm : Nat} {m : List ((Int × Int) × Value)}
theorem MapAt.noCells (h : MapAt w gm m) : ∀ r, (some gm : Option Nat) = some r → ∃ o : Obj, w.heap[r]? = some o ∧ o.isCells = false := by
  obtain ⟨es, clock, h1, _⟩ := h
  intro r e
  cases e
  exact ⟨_, h1, rfl⟩
theorem RowsAt.grown {α : Type} {v : Value} {sz : Nat} {cells : α → List Value} {l : List α} (h : RowsAt w v sz cells l) (hm : MapAt w gm m) (hg : w.grownBy w' (some gm)) : RowsAt w' v sz cells l := by
  obtain ⟨h0, A, cap, h1, h2, h3, h4⟩ := h
  refine ⟨h0, A, cap, h1, h2, h3, fun hne => ?_⟩
  obtain ⟨b, off, e, hlt, hc⟩ := h4 hne
  exact ⟨b, off, e, Nat.lt_of_lt_of_le hlt hg.size, fun i x hx j u hu => cell_kept (hc i x hx j u hu) hg hm.noCells⟩
theorem LandAt.grown {v1 v2 v3 v4 : Value} {L : Ld} {c : List (Value × List Cl)} (h : LandAt w v1 v2 v3 v4 L c) (hm : MapAt w gm m) (hg : w.grownBy w' (some gm)) : LandAt w' v1 v2 v3 v4 L c :=
  ⟨h.st.grown hm hg, h.rg.grown hm hg, h.cs.grown hm hg, h.eq, fun x hx => (h.each x hx).grown hm hg, h.sn.grown hm hg⟩
theorem Box.ne_map {g : Nat} {t : TypeId} {cs : Array Value} (h : Box w g t cs) (hm : MapAt w gm m) : some g ≠ some gm := by
  intro e
  cases e
  obtain ⟨es, clock, h1, _⟩ := hm
  unfold Box at h
  rw [h] at h1
  cases h1
theorem Box.still {g : Nat} {t : TypeId} {cs : Array Value} (h : Box w g t cs) (hm : MapAt w gm m) (hg : w.grownBy w' (some gm)) : Box w' g t cs := h.grown hg (h.ne_map hm)
theorem grown_later (hg : w.grownBy w1 (some gm)) (hb : Below w1.heap.size w1 w') : w.grownBy w' (some gm) :=
  ⟨hb.os.trans hg.os, hb.tape.trans hg.tape, hb.output.trans hg.output, Nat.le_trans hg.size hb.size, fun i hi hne => (hb.block i (Nat.lt_of_lt_of_le hi hg.size)).trans (hg.block i hi hne)⟩
theorem grown0 : w.grownBy w (some gm) := World.grownBy.refl _ _
theorem grown_below (hb : Below w.heap.size w w') : w.grownBy w' (some gm) := grown_later grown0 hb
theorem grown_from (hg : w.grownBy w1 (some gm)) (hb : Below w.heap.size w1 w') : w.grownBy w' (some gm) :=
  ⟨hb.os.trans hg.os, hb.tape.trans hg.tape, hb.output.trans hg.output, Nat.le_trans hg.size hb.size, fun i hi hne => (hb.block i hi).trans (hg.block i hi hne)⟩
theorem grown_trans {w2 : World} (h : w.grownBy w1 (some gm)) (k : w1.grownBy w2 (some gm)) : w.grownBy w2 (some gm) := World.grownBy.trans h k
end

/-- Blocks outside N stand as they stood. -/
structure OffN (N : Nat → Prop) (w w' : World) : Prop where
  size : w.heap.size ≤ w'.heap.size
  block : ∀ b, b < w.heap.size → ¬ N b → w'.heap[b]? = w.heap[b]?
theorem OffN.trans {N : Nat → Prop} {w w1 w' : World} (h : OffN N w w1) (k : OffN N w1 w') : OffN N w w' :=
  ⟨Nat.le_trans h.size k.size, fun b hb hn => (k.block b (Nat.lt_of_lt_of_le hb h.size) hn).trans (h.block b hb hn)⟩
theorem OffN.mono {N N' : Nat → Prop} {w w' : World} (h : OffN N w w') (hN : ∀ b, N b → N' b) : OffN N' w w' := ⟨h.size, fun b hb hn => h.block b hb fun hb' => hn (hN b hb')⟩
theorem OffN.of_below {N : Nat → Prop} {w w' : World} (h : Below w.heap.size w w') : OffN N w w' := ⟨h.size, fun b hb _ => h.block b hb⟩
theorem OffN.of_grown {N : Nat → Prop} {w w' : World} {row : Option Nat} (h : w.grownBy w' row) (hN : ∀ b, some b = row → N b) : OffN N w w' := ⟨h.size, fun b hb hn => h.block b hb fun e => hn (hN b e)⟩
/-- Where the list is not empty, its slice lies in no block of N. -/
def farN (N : Nat → Prop) {α : Type} (l : List α) (v : Value) : Prop := l ≠ [] → ∀ A n cap, v = .slice (some A) n cap → ¬ N A.block
theorem RowsAt.off {N : Nat → Prop} {w w' : World} {α : Type} {v : Value} {sz : Nat} {cells : α → List Value} {l : List α} (h : RowsAt w v sz cells l) (hf : farN N l v) (hw : OffN N w w') : RowsAt w' v sz cells l := by
  obtain ⟨h0, A, cap, h1, h2, h3, h4⟩ := h
  refine ⟨h0, A, cap, h1, h2, h3, fun hne => ?_⟩
  obtain ⟨b, off, e, hlt, hc⟩ := h4 hne
  subst e
  exact ⟨b, off, rfl, Nat.lt_of_lt_of_le hlt hw.size, fun i x hx j u hu => (World.cell?_of_block (a := ⟨b, off + i * sz + j, none⟩) (hw.block b hlt (hf hne _ _ _ h1))).trans (hc i x hx j u hu)⟩
theorem farN_far {N : Nat → Prop} {α : Type} {l : List α} {v : Value} {B : Nat} (hN : ∀ g, N g → g < B) (h : ∀ A n cap, v = .slice (some A) n cap → B ≤ A.block) : farN N l v := fun _ A n cap e hn => absurd (hN _ hn) (Nat.not_lt.2 (h A n cap e))
theorem own_from {w : World} {base e size n : Nat} {v : Value} {xs : List Value} (h : w.ownsRow base e size v n xs) : ∀ A n cap, v = .slice (some A) n cap → base ≤ A.block := by
  intro A n' cap' hv
  rcases h.2 with ⟨rfl, _⟩ | ⟨g, cap, cur, rfl, hb, _⟩
  · cases hv
  · injection hv with h1
    injection h1 with h1
    subst h1
    exact hb

/-- The map's slices are the ridges that block, and lie in no block of N. -/
def MapN (N : Nat → Prop) (w : World) (gm : Nat) (L : Ld) : Prop := ∃ m, MapAt w gm m ∧ ∀ x ∈ m, RowsAt w x.2 1 (fun n => [iv n]) (ridgesI L x.1.1 x.1.2) ∧ farN N (ridgesI L x.1.1 x.1.2) x.2
theorem MapN.off {N : Nat → Prop} {w w' : World} {gm : Nat} {L : Ld} (h : MapN N w gm L) (hw : OffN N w w') (hg : ¬ N gm) : MapN N w' gm L := by
  obtain ⟨m, h1, h2⟩ := h
  refine ⟨m, ?_, fun x hx => ⟨(h2 x hx).1.off (h2 x hx).2 hw, (h2 x hx).2⟩⟩
  obtain ⟨es, clock, hb, hm⟩ := h1
  exact ⟨es, clock, (hw.block gm (Array.getElem?_eq_some_iff.1 hb).1 hg).trans hb, hm⟩
theorem MapN.more {N N' : Nat → Prop} {w : World} {gm : Nat} {L : Ld} (h : MapN N w gm L) (hN : ∀ b, b < w.heap.size → N' b → N b) : MapN N' w gm L := by
  obtain ⟨m, h1, h2⟩ := h
  refine ⟨m, h1, fun x hx => ⟨(h2 x hx).1, fun hne A n cap e hn => ?_⟩⟩
  obtain ⟨_, A', cap', e', _, _, h4⟩ := (h2 x hx).1
  obtain ⟨b, off, eA, hlt, _⟩ := h4 hne
  subst eA
  have hA : A = ⟨b, off, none⟩ := by
    rw [e] at e'
    injection e' with h1
    injection h1
  subst hA
  exact (h2 x hx).2 hne _ _ _ e (hN b hlt hn)

/-- A land at work, whatever its map knows; the map's slices lie in no block of N. -/
structure SiteN (N : Nat → Prop) (w : World) (gs gm : Nat) (v1 v2 v3 v4 : Value) (L : Ld) (c : List (Value × List Cl)) : Prop where
  box : Box w gs 108 #[v1, v2, v3, v4, .map (some gm)]
  land : LandAt w v1 v2 v3 v4 L c
  map : MapN N w gm L
section
variable {N : Nat → Prop} {w w' : World} {gs gm : Nat} {v1 v2 v3 v4 : Value} {L : Ld} {c : List (Value × List Cl)}
theorem SiteN.at (h : SiteN N w gs gm v1 v2 v3 v4 L c) : ∃ m, SiteAt w gs gm v1 v2 v3 v4 L c m ∧ ∀ x ∈ m, farN N (ridgesI L x.1.1 x.1.2) x.2 := by
  obtain ⟨m, h1, h2⟩ := h.map
  exact ⟨m, ⟨h.box, h.land, h1, fun x hx => (h2 x hx).1⟩, fun x hx => (h2 x hx).2⟩
theorem SiteAt.n {m : List ((Int × Int) × Value)} (h : SiteAt w gs gm v1 v2 v3 v4 L c m) (hf : ∀ x ∈ m, farN N (ridgesI L x.1.1 x.1.2) x.2) : SiteN N w gs gm v1 v2 v3 v4 L c :=
  ⟨h.box, h.land, m, h.map, fun x hx => ⟨h.good x hx, hf x hx⟩⟩
theorem SiteAt.no {m : List ((Int × Int) × Value)} (h : SiteAt w gs gm v1 v2 v3 v4 L c m) : SiteN (fun _ => False) w gs gm v1 v2 v3 v4 L c := h.n fun _ _ _ _ _ _ _ hn => hn
theorem SiteN.lt (h : SiteN N w gs gm v1 v2 v3 v4 L c) : gm < w.heap.size := by
  obtain ⟨m, h1, _⟩ := h.map
  exact h1.lt
theorem SiteN.kept (h : SiteN N w gs gm v1 v2 v3 v4 L c) (hb : Below w.heap.size w w') : SiteN N w' gs gm v1 v2 v3 v4 L c := by
  obtain ⟨m, h1, h2⟩ := h.at
  exact (h1.kept hb).n h2
theorem SiteN.more {N' : Nat → Prop} (h : SiteN N w gs gm v1 v2 v3 v4 L c) (hN : ∀ b, b < w.heap.size → N' b → N b) : SiteN N' w gs gm v1 v2 v3 v4 L c := ⟨h.box, h.land, h.map.more hN⟩
/-- Behind writes to blocks of N that have come since w0. -/
theorem SiteN.own {N0 : Nat → Prop} {w0 : World} (h : SiteN N w gs gm v1 v2 v3 v4 L c) (h0 : SiteN N0 w0 gs gm v1 v2 v3 v4 L c) (hg : w0.grownBy w' (some gm)) (hw : OffN N w w') (hgm : ¬ N gm) : SiteN N w' gs gm v1 v2 v3 v4 L c := by
  obtain ⟨m, h1, _⟩ := h0.map
  exact ⟨h0.box.still h1 hg, h0.land.grown h1 hg, h.map.off hw hgm⟩
theorem Box.stillN {g : Nat} {t : TypeId} {cs : Array Value} (h : Box w g t cs) (hs : SiteN N w gs gm v1 v2 v3 v4 L c) (hg : w.grownBy w' (some gm)) : Box w' g t cs := by
  obtain ⟨m, h1, _⟩ := hs.map
  exact h.still h1 hg
end
/-- A new key of the map. -/
theorem SiteAt.new {w w' : World} {gs gm : Nat} {v1 v2 v3 v4 : Value} {L : Ld} {c : List (Value × List Cl)} {m : List ((Int × Int) × Value)} {a b : Int} {u : Value} (h : SiteAt w gs gm v1 v2 v3 v4 L c m) (hg : w.grownBy w' (some gm)) (hm : MapAt w' gm (m ++ [((a, b), u)])) (hu : RowsAt w u 1 (fun n => [iv n]) (ridgesI L a b)) : SiteAt w' gs gm v1 v2 v3 v4 L c (m ++ [((a, b), u)]) :=
  ⟨h.box.still h.map hg, h.land.grown h.map hg, hm, fun x hx => by
    rcases List.mem_append.1 hx with hx | hx
    · exact (h.good x hx).grown h.map hg
    · rw [List.mem_singleton.1 hx]
      exact hu.grown h.map hg⟩
theorem look_mem {m : List ((Int × Int) × Value)} {a b : Int} {u : Value} (h : look m a b = some u) : ((a, b), u) ∈ m := by
  unfold look at h
  obtain ⟨x, hx, rfl⟩ := Option.map_eq_some_iff.1 h
  have h1 := List.find?_some hx
  have h2 := List.mem_of_find?_eq_some hx
  have h3 : x.1 = (a, b) := by simpa using h1
  rw [← h3]
  exact h2
theorem SiteAt.old {w : World} {gs gm : Nat} {v1 v2 v3 v4 : Value} {L : Ld} {c : List (Value × List Cl)} {m : List ((Int × Int) × Value)} {a b : Int} {u : Value} (h : SiteAt w gs gm v1 v2 v3 v4 L c m) (hl : look m a b = some u) : RowsAt w u 1 (fun n => [iv n]) (ridgesI L a b) := by
  have hx := look_mem hl
  have hg := h.good
  generalize m = m' at hx hg
  exact hg ((a, b), u) hx

/-- A slice that reads as a list, in a block from B on. -/
def Fact.rowFrom (B : Nat) {α : Type} (sz : Nat) (cells : α → List Value) (l : List α) : Fact := ⟨fun v w => RowsAt w v sz cells l ∧ ∀ A n cap, v = .slice (some A) n cap → B ≤ A.block, fun _ _ _ h h' => ⟨h.1.kept h', h.2⟩, false, fun _ _ h => by cases h⟩

end Go.Proofs.Ytojbdmdjepgpjaa
