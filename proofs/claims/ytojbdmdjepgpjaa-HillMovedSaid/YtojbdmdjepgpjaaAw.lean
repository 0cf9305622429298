/-
  WALK of 'awake': the document's examples. No condition.
-/
import Derived.Test.YtojbdmdjepgpjaaTh
import Derived.Test.YtojbdmdjepgpjaaRi
namespace Go.Proofs.Ytojbdmdjepgpjaa
open Go.RowKit

def threeL (top : Int) : Ld := ⟨[⟨10, 10, 100, 1⟩, ⟨30, 10, 200, 1⟩, ⟨10, 30, 50, 2⟩], [⟨20, 5, 20, 15, 0, top⟩], [[], [⟨⟨5, 20, 25, 20, 0, 80⟩, 1, 2⟩]], [⟨50, 0, 0⟩, ⟨50, 0, 20⟩, ⟨-50, 0, 30⟩]⟩
def threeC (n : Nat) : List (Value × List Cl) := [(.slice none 0 0, []), (.slice (some ⟨n + 3, 0, none⟩) 1 1, [⟨⟨5, 20, 25, 20, 0, 80⟩, 1, 2⟩])]

theorem RowsAt.of_box {α : Type} {w : World} {b t sz n : Nat} {cells : α → List Value} {cs : Array Value} {l : List α} (h : Box w b t cs) (hn : n = l.length) (hl : l.length ≤ 1000)
    (hc : ∀ i x, l[i]? = some x → ∀ j u, (cells x)[j]? = some u → cs[i * sz + j]? = some u) : RowsAt w (.slice (some ⟨b, 0, none⟩) n n) sz cells l := by
  subst hn
  exact ⟨hl, _, l.length, rfl, Nat.le_refl _, by omega, fun _ => ⟨b, 0, rfl, h.lt, fun i x hx j u hu => by
    rw [h.cell (0 + i * sz + j), Nat.zero_add]
    exact hc i x hx j u hu⟩⟩

theorem Three.land {n : Nat} {top : Int} {w : World} (h : Three n top w) :
    LandAt w (.slice (some ⟨n + 1, 0, none⟩) 3 3) (.slice (some ⟨n + 2, 0, none⟩) 1 1) (.slice (some ⟨n + 4, 0, none⟩) 2 2) (.slice (some ⟨n + 5, 0, none⟩) 3 3) (threeL top) (threeC n) := by
  refine ⟨RowsAt.of_box h.st rfl (by simp [threeL]) ?_, RowsAt.of_box h.rg rfl (by simp [threeL]) ?_, RowsAt.of_box h.cs rfl (by simp [threeC]) ?_, rfl, ?_, RowsAt.of_box h.sn rfl (by simp [threeL]) ?_⟩
  · intro i x hx j u hu
    rcases i with _ | _ | _ | i <;> simp [threeL] at hx <;> subst hx <;> rcases j with _ | _ | _ | _ | j <;> simp [St.cells] at hu <;> subst hu <;> rfl
  · intro i x hx j u hu
    rcases i with _ | i <;> simp [threeL] at hx <;> subst hx <;> rcases j with _ | _ | _ | _ | _ | _ | j <;> simp [Wl.cells] at hu <;> subst hu <;> rfl
  · intro i x hx j u hu
    rcases i with _ | _ | i <;> simp [threeC] at hx <;> subst hx <;> rcases j with _ | j <;> simp at hu <;> subst hu <;> rfl
  · intro x hx
    simp only [threeC, List.mem_cons, List.not_mem_nil, or_false] at hx
    rcases hx with rfl | rfl
    · exact RowsAt.nil _
    · refine RowsAt.of_box h.cl rfl (by simp) ?_
      intro i x hx j u hu
      rcases i with _ | i <;> simp at hx
      subst hx
      rcases j with _ | _ | _ | _ | _ | _ | _ | _ | j <;> simp [Cl.cells] at hu <;> subst hu <;> rfl
  · intro i x hx j u hu
    rcases i with _ | _ | _ | i <;> simp [threeL] at hx <;> subst hx <;> rcases j with _ | _ | _ | j <;> simp [Sn.cells] at hu <;> subst hu <;> rfl

theorem aw1 : whyE (threeL 149) 0 2 1 1 = (4, 0, 0) := by decide +kernel
theorem aw2 : hoursE (threeL 149) 0 2 0 = ([1, 2], 0) := by decide +kernel
theorem aw3 : stickE (threeL 149) 0 2 1 = (1, 0) := by decide +kernel
theorem aw4 : reachE (threeL 149) 0 0 1 = ([1, 2], 0) := by decide +kernel
theorem aw5 : riseI (threeL 159) 0 1 = (19, 0) := by decide +kernel
theorem aw6 : mirI (threeL 149) 2 1 2 = (2, 0) := by decide +kernel

set_option maxRecDepth 100000 in
set_option maxHeartbeats 2000000 in
theorem awake_any (w : World) : Calls Try.prog 16 #[] w fun e w' => e = .returned (.bool true) ∧ Below w.heap.size w w' := by
  have hB : Below w.heap.size w w := up0
  go_enter Try.func16, Try.ntmps16
  go_wp2_with fail
  refine (three_any _ _).mono ?_
  rintro e wa ⟨rfl, h3, hb3⟩
  have hB := up_later hB hb3
  go_wp2_with fail
  have A1 := Why_any _ _ _ _ (threeL 149) _ 0 2 1 1 wa h3.land
  rw [aw1] at A1
  refine A1.mono ?_
  rintro e w1 ⟨rfl, hb⟩
  have hB := up_later hB hb
  clear h3 hb3 hb A1
  go_wp2_with fail
  refine (three_any _ _).mono ?_
  rintro e wa ⟨rfl, h3, hb3⟩
  have hB := up_later hB hb3
  go_wp2_with fail
  have A2 := Hours_any _ _ _ _ (threeL 149) _ 0 2 0 wa h3.land
  rw [aw2] at A2
  refine A2.mono ?_
  rintro e w2 ⟨u1, rfl, hr1, hb⟩
  have hB := up_later hB hb
  clear h3 hb3 hb A2
  go_wp2_with fail
  refine (three_any _ _).mono ?_
  rintro e wa ⟨rfl, h3, hb3⟩
  have hB := up_later hB hb3
  go_wp2_with fail
  have hr1 := hr1.kept hb3
  have A3 := Stick_any _ _ _ _ (threeL 149) _ 0 2 1 wa h3.land
  rw [aw3] at A3
  refine A3.mono ?_
  rintro e w3 ⟨rfl, hb⟩
  have hB := up_later hB hb
  have hr1 := hr1.kept hb
  clear h3 hb3 hb A3
  go_wp2_with fail
  refine (three_any _ _).mono ?_
  rintro e wa ⟨rfl, h3, hb3⟩
  have hB := up_later hB hb3
  go_wp2_with fail
  have hr1 := hr1.kept hb3
  have A4 := Reach_any _ _ _ _ (threeL 149) _ 0 0 1 wa h3.land
  rw [aw4] at A4
  refine A4.mono ?_
  rintro e w4 ⟨u2, rfl, hr2, hb⟩
  have hB := up_later hB hb
  have hr1 := hr1.kept hb
  clear h3 hb3 hb A4
  go_wp2_with fail
  refine (three_any _ _).mono ?_
  rintro e wa ⟨rfl, h3, hb3⟩
  have hB := up_later hB hb3
  go_wp2_with fail
  have hr1 := hr1.kept hb3
  have hr2 := hr2.kept hb3
  have A5 := Rise_any _ _ _ _ (threeL 159) _ 0 1 wa h3.land
  rw [aw5] at A5
  refine A5.mono ?_
  rintro e w5 ⟨rfl, hb⟩
  have hB := up_later hB hb
  have hr1 := hr1.kept hb
  have hr2 := hr2.kept hb
  clear h3 hb3 hb A5
  go_wp2_with fail
  refine (three_any _ _).mono ?_
  rintro e wa ⟨rfl, h3, hb3⟩
  have hB := up_later hB hb3
  go_wp2_with fail
  have hr1 := hr1.kept hb3
  have hr2 := hr2.kept hb3
  have A6 := Mirrors_any _ _ _ _ (threeL 149) _ 2 1 2 wa h3.land
  rw [aw6] at A6
  refine A6.mono ?_
  rintro e w6 ⟨rfl, hb⟩
  have hB := up_later hB hb
  have hr1 := hr1.kept hb
  have hr2 := hr2.kept hb
  clear h3 hb3 hb A6
  go_wp2_with fail
  refine (ints_any _ _ [1, 2] [1, 2] _ (hr1.kept (up_alloc up0 _)) (open_row2 (Box.new rfl))).mono ?_
  rintro e w7 ⟨rfl, hb⟩
  have hb := up_later (up_alloc up0 _) hb
  have hB := up_later hB hb
  have hr2 := hr2.kept hb
  have e12 : ([1, 2] == ([1, 2] : List Int)) = true := by decide
  clear hr1 hb
  go_wp2_with fail
  refine (ints_any _ _ [1, 2] [1, 2] _ (hr2.kept (up_alloc up0 _)) (open_row2 (Box.new rfl))).mono ?_
  rintro e w8 ⟨rfl, hb⟩
  have hb := up_later (up_alloc up0 _) hb
  have hB := up_later hB hb
  clear hr2 hb
  go_wp2_with fail
  go_ret
  exact ⟨by simp [go_sem], hB⟩

end Go.Proofs.Ytojbdmdjepgpjaa
