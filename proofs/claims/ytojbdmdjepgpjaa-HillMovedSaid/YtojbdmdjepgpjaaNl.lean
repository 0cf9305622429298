/-
  PLAIN: what 'HillNames' wants: its examples' answers, and lands in five blocks.
-/
import Derived.Test.YtojbdmdjepgpjaaAw
namespace Go.Proofs.Ytojbdmdjepgpjaa
open Go.RowKit

theorem na1 : whyE (threeL 149) 0 1 0 0 = (1, 0, 0) := by decide +kernel
theorem na2 : whyE (threeL 149) 0 1 0 1 = (0, 0, 0) := by decide +kernel
theorem na3 : whyE (threeL 150) 0 1 0 1 = (3, 0, 0) := by decide +kernel
theorem na4 : whyE (threeL 149) 1 2 1 2 = (0, 0, 0) := by decide +kernel
theorem na5 : alwaysE (threeL 149) 0 2 = ([], 0) := by decide +kernel
theorem na6 : wallsE (threeL 150) 0 1 1 1 = ([0], [], 0) := by decide +kernel
theorem nb1 : whyE (threeL 149) 0 3 0 0 = (0, 0, 2) := by decide +kernel
theorem nb2 : wallsE (threeL 149) 0 1 2 0 = ([], [], 2) := by decide +kernel
theorem nb3 : whyE (threeL 149) 0 1 0 3 = (0, 0, 2) := by decide +kernel
theorem nb4 : hoursE (threeL 149) 1 1 0 = ([], 6) := by decide +kernel
theorem nb5 : stickE (threeL 149) 0 1 1 = (0, 7) := by decide +kernel
theorem nb6 : mirI (threeL 149) 0 1 0 = (0, 7) := by decide +kernel
theorem nb7 : riseI (threeL 1000) 0 1 = (0, 9) := by decide +kernel
theorem nb8 : reachE (threeL 149) (-1) 0 0 = ([], 2) := by decide +kernel

theorem ints_row1 {w : World} {g : Nat} {a : Int} (h : Box w g 3 #[iv a]) : RowsAt w (.slice (some ⟨g, 0, none⟩) 1 1) 1 (fun n => [iv n]) [a] :=
  RowsAt.of_box h rfl (by simp) fun i x hx j u hu => by
    rcases i with _ | i <;> simp at hx
    subst hx
    rcases j with _ | j <;> simp at hu <;> subst hu <;> rfl

/-- Block b alone may have turned. -/
structure Only (b : Nat) (w w' : World) : Prop where
  size : w'.heap.size = w.heap.size
  block : ∀ g, g ≠ b → w'.heap[g]? = w.heap[g]?
theorem Only.set (w : World) (b i : Nat) (u : Value) : Only b w (w.setCell ⟨b, i, none⟩ u) := ⟨by simp [World.setCell], fun g hg => Below.heap_setCell w ⟨b, i, none⟩ u g hg⟩
theorem Only.trans {b : Nat} {w w1 w' : World} (h : Only b w w1) (k : Only b w1 w') : Only b w w' := ⟨k.size.trans h.size, fun g hg => (k.block g hg).trans (h.block g hg)⟩
theorem Only.drew {b : Nat} {w w' : World} (h : Only b w w') : Only b w w'.drew := ⟨h.size, h.block⟩
theorem Box.only {b g t : Nat} {cs : Array Value} {w w' : World} (h : Box w g t cs) (ho : Only b w w') (hne : g ≠ b) : Box w' g t cs := (ho.block g hne).trans h
/-- A land in five blocks. -/
structure Lay (n : Nat) (a1 a2 a3 a4 a5 : Array Value) (w : World) : Prop where
  st : Box w (n + 1) 66 a1
  rg : Box w (n + 2) 68 a2
  cl : Box w (n + 3) 70 a3
  cs : Box w (n + 4) 71 a4
  sn : Box w (n + 5) 91 a5
theorem Lay.only {n b : Nat} {a1 a2 a3 a4 a5 : Array Value} {w w' : World} (h : Lay n a1 a2 a3 a4 a5 w) (ho : Only b w w') (hb : b ≤ n ∨ n + 5 < b) : Lay n a1 a2 a3 a4 a5 w' :=
  ⟨h.st.only ho (by omega), h.rg.only ho (by omega), h.cl.only ho (by omega), h.cs.only ho (by omega), h.sn.only ho (by omega)⟩
theorem Lay.kept {n : Nat} {a1 a2 a3 a4 a5 : Array Value} {w w' : World} (h : Lay n a1 a2 a3 a4 a5 w) (hb : Below w.heap.size w w') : Lay n a1 a2 a3 a4 a5 w' := ⟨h.st.kept hb, h.rg.kept hb, h.cl.kept hb, h.cs.kept hb, h.sn.kept hb⟩
theorem Three.lay {n : Nat} {top : Int} {w : World} (h : Three n top w) : Lay n #[iv 10, iv 10, iv 100, iv 1, iv 30, iv 10, iv 200, iv 1, iv 10, iv 30, iv 50, iv 2] #[iv 20, iv 5, iv 20, iv 15, iv 0, iv top] #[iv 5, iv 20, iv 25, iv 20, iv 0, iv 80, iv 1, iv 2] #[.slice none 0 0, .slice (some ⟨n + 3, 0, none⟩) 1 1] #[iv 50, iv 0, iv 0, iv 50, iv 0, iv 20, iv (-50), iv 0, iv 30] w :=
  ⟨h.st, h.rg, h.cl, h.cs, h.sn⟩

theorem flat_at {α : Type} {cells : α → List Value} {sz : Nat} (hsz : ∀ x, (cells x).length = sz) : ∀ (l : List α) (i : Nat) (x : α), l[i]? = some x → ∀ (j : Nat) (u : Value), (cells x)[j]? = some u → (l.flatMap cells)[i * sz + j]? = some u
  | [], i, x, h, _, _, _ => by simp at h
  | a :: l, 0, x, h, j, u, hu => by
    have : a = x := by simpa using h
    subst this
    have hj : j < (cells a).length := (List.getElem?_eq_some_iff.1 hu).1
    rw [List.flatMap_cons, List.getElem?_append_left (by omega), Nat.zero_mul, Nat.zero_add]
    exact hu
  | a :: l, i + 1, x, h, j, u, hu => by
    have ih := flat_at hsz l i x (by simpa using h) j u hu
    have e : (i + 1) * sz + j = sz + (i * sz + j) := by rw [Nat.succ_mul]; omega
    rw [List.flatMap_cons, e, List.getElem?_append_right (by rw [hsz]; omega), hsz, Nat.add_sub_cancel_left]
    exact ih
theorem RowsAt.of_flat {α : Type} {w : World} {b t sz n : Nat} {cells : α → List Value} {l : List α} (hsz : ∀ x, (cells x).length = sz) (h : Box w b t (l.flatMap cells).toArray) (hn : n = l.length) (hl : n ≤ 1000) : RowsAt w (.slice (some ⟨b, 0, none⟩) n n) sz cells l :=
  RowsAt.of_box h hn (by omega) fun i x hx j u hu => by
    have := flat_at hsz l i x hx j u hu
    simpa using this
theorem Lay.land {n : Nat} {w : World} (st : List St) (rg : List Wl) (cl : List Cl) (sn : List Sn)
    (h : Lay n (st.flatMap St.cells).toArray (rg.flatMap Wl.cells).toArray (cl.flatMap Cl.cells).toArray #[.slice none 0 0, .slice (some ⟨n + 3, 0, none⟩) 1 1] (sn.flatMap Sn.cells).toArray w)
    (h1 : 3 = st.length) (h2 : 1 = rg.length) (h3 : 1 = cl.length) (h4 : 3 = sn.length) :
    LandAt w (.slice (some ⟨n + 1, 0, none⟩) 3 3) (.slice (some ⟨n + 2, 0, none⟩) 1 1) (.slice (some ⟨n + 4, 0, none⟩) 2 2) (.slice (some ⟨n + 5, 0, none⟩) 3 3) ⟨st, rg, [[], cl], sn⟩ [(.slice none 0 0, []), (.slice (some ⟨n + 3, 0, none⟩) 1 1, cl)] := by
  refine ⟨RowsAt.of_flat (fun _ => rfl) h.st h1 (by decide), RowsAt.of_flat (fun _ => rfl) h.rg h2 (by decide), RowsAt.of_box h.cs rfl (by simp) ?_, rfl, ?_, RowsAt.of_flat (fun _ => rfl) h.sn h4 (by decide)⟩
  · intro i x hx j u hu
    rcases i with _ | _ | i <;> simp at hx <;> subst hx <;> rcases j with _ | j <;> simp at hu <;> subst hu <;> rfl
  · intro x hx
    simp only [List.mem_cons, List.not_mem_nil, or_false] at hx
    rcases hx with rfl | rfl
    · exact RowsAt.nil _
    · exact RowsAt.of_flat (fun _ => rfl) h.cl h3 (by decide)
theorem Lay.five {n b : Nat} {w : World} (st : List St) (rg : List Wl) (cl : List Cl) (sn : List Sn)
    (h : Lay n (st.flatMap St.cells).toArray (rg.flatMap Wl.cells).toArray (cl.flatMap Cl.cells).toArray #[.slice none 0 0, .slice (some ⟨n + 3, 0, none⟩) 1 1] (sn.flatMap Sn.cells).toArray w)
    (hm : Box w b 71 #[.slice none 0 0, .slice none 0 0, .slice none 0 0, .slice none 0 0, .slice none 0 0]) (h1 : 3 = st.length) (h2 : 1 = rg.length) (h4 : 3 = sn.length) :
    LandAt w (.slice (some ⟨n + 1, 0, none⟩) 3 3) (.slice (some ⟨n + 2, 0, none⟩) 1 1) (.slice (some ⟨b, 0, none⟩) 5 5) (.slice (some ⟨n + 5, 0, none⟩) 3 3) ⟨st, rg, [[], [], [], [], []], sn⟩ [(.slice none 0 0, []), (.slice none 0 0, []), (.slice none 0 0, []), (.slice none 0 0, []), (.slice none 0 0, [])] := by
  refine ⟨RowsAt.of_flat (fun _ => rfl) h.st h1 (by decide), RowsAt.of_flat (fun _ => rfl) h.rg h2 (by decide), RowsAt.of_box hm rfl (by simp) ?_, rfl, ?_, RowsAt.of_flat (fun _ => rfl) h.sn h4 (by decide)⟩
  · intro i x hx j u hu
    rcases i with _ | _ | _ | _ | _ | i <;> simp at hx <;> subst hx <;> rcases j with _ | j <;> simp at hu <;> subst hu <;> rfl
  · intro x hx
    simp only [List.mem_cons, List.not_mem_nil, or_false, or_self] at hx
    subst hx
    exact RowsAt.nil _
theorem LandAt.empty (w : World) : LandAt w (.slice none 0 0) (.slice none 0 0) (.slice none 0 0) (.slice none 0 0) ⟨[], [], [], []⟩ [] :=
  ⟨RowsAt.nil _, RowsAt.nil _, RowsAt.nil _, rfl, fun _ h => (by cases h), RowsAt.nil _⟩
theorem nc1 : errI ⟨[⟨10, 10, 100, 1⟩, ⟨30, 10, 200, 1⟩, ⟨30, 10, 50, 2⟩], [⟨20, 5, 20, 15, 0, 149⟩], [[], [⟨⟨5, 20, 25, 20, 0, 80⟩, 1, 2⟩]], [⟨50, 0, 0⟩, ⟨50, 0, 20⟩, ⟨-50, 0, 30⟩]⟩ = 1 := by decide +kernel
theorem nc2 : errI ⟨[⟨10, 10, 100, 1⟩, ⟨30, 10, 200, 1⟩, ⟨10, 30, 50, 2⟩], [⟨20, 5, 20, 15, 0, 149⟩], [[], [], [], [], []], [⟨50, 0, 0⟩, ⟨50, 0, 20⟩, ⟨-50, 0, 30⟩]⟩ = 3 := by decide +kernel
theorem nc3 : errI ⟨[⟨10, 10, 1001, 1⟩, ⟨30, 10, 200, 1⟩, ⟨10, 30, 50, 2⟩], [⟨20, 5, 20, 15, 0, 149⟩], [[], [⟨⟨5, 20, 25, 20, 0, 80⟩, 1, 2⟩]], [⟨50, 0, 0⟩, ⟨50, 0, 20⟩, ⟨-50, 0, 30⟩]⟩ = 1 := by decide +kernel
theorem nc4 : errI ⟨[⟨10, 10, 100, 1⟩, ⟨30, 10, 200, 1⟩, ⟨10, 30, 50, 2⟩], [⟨20, 5, 20, 15, 0, 149⟩], [[], [⟨⟨5, 20, 25, 20, 0, 80⟩, 1, 3⟩]], [⟨50, 0, 0⟩, ⟨50, 0, 20⟩, ⟨-50, 0, 30⟩]⟩ = 1 := by decide +kernel
theorem nc5 : errI ⟨[⟨10, 10, 100, 1⟩, ⟨30, 10, 200, 1⟩, ⟨10, 30, 50, 2⟩], [⟨20, 5, 20, 5, 0, 149⟩], [[], [⟨⟨5, 20, 25, 20, 0, 80⟩, 1, 2⟩]], [⟨50, 0, 0⟩, ⟨50, 0, 20⟩, ⟨-50, 0, 30⟩]⟩ = 1 := by decide +kernel
theorem nc6 : errI ⟨[⟨10, 10, 100, 1⟩, ⟨30, 10, 200, 1⟩, ⟨10, 30, 50, 2⟩], [⟨20, 5, 20, 15, 1, 149⟩], [[], [⟨⟨5, 20, 25, 20, 0, 80⟩, 1, 2⟩]], [⟨50, 0, 0⟩, ⟨50, 0, 20⟩, ⟨-50, 0, 30⟩]⟩ = 1 := by decide +kernel
theorem nc7 : errI ⟨[], [], [], []⟩ = 1 := by decide +kernel

end Go.Proofs.Ytojbdmdjepgpjaa
