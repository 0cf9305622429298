/-
  WALK of partOf: the letters of a part, -1 behind them. Conditions: a text of at most 1000 letters; a part that lies within 0 to 5.
-/
import Derived.Test.YtonekgefegfapaaGreatFv
namespace Go.Proofs.YtonekgefegfapaaGreat
open Go.RowKit

/-- A letter of a part. -/
def partX (t : List Int) (f m i : Nat) : Int := if i < m ∧ f + i < t.length then t.getD (f + i) 0 else -1
def partC (g : Nat → Int) (k : Nat) : Array Value := #[iv (if 0 < k then g 0 else 0), iv (if 1 < k then g 1 else 0), iv (if 2 < k then g 2 else 0), iv (if 3 < k then g 3 else 0), iv (if 4 < k then g 4 else 0)]
theorem partC_set (g : Nat → Int) (k : Nat) (hk : k < 5) : (partC g k).setIfInBounds k (iv (g k)) = partC g (k + 1) := by
  rcases k with _ | _ | _ | _ | _ | k
  · rfl
  · rfl
  · rfl
  · rfl
  · rfl
  · omega
theorem partC_size (g : Nat → Int) (k : Nat) : (partC g k).size = 5 := rfl
theorem set_twice {cs : Array Value} (k : Nat) (a b : Value) : (cs.setIfInBounds k a).setIfInBounds k b = cs.setIfInBounds k b := by
  apply Array.ext
  · simp
  · intro i h1 h2
    by_cases h : k = i
    · subst h; simp
    · rw [Array.getElem_setIfInBounds_ne (by simpa using h1) h, Array.getElem_setIfInBounds_ne (by simpa using h1) h, Array.getElem_setIfInBounds_ne (by simpa using h1) h]
set_option maxRecDepth 100000 in
set_option maxHeartbeats 1500000 in
theorem partOf_any (u : Value) (t : List Int) (f m : Nat) (w : World) (ht : RowsAt w u 1 ic t) (hf : f ≤ 5) :
    Calls Tryz.prog 120 #[u, iv f, iv m] w fun e w' => e = .returned (.agg (partC (partX t f m) 5)) ∧ Below w.heap.size w w' := by
  obtain ⟨hlen, A, cap, hv, -, -⟩ := ht.form
  subst hv
  have HT := Lib.hid ht
  clear ht
  go_enter Tryz.func120, Tryz.ntmps120
  go_wp2_with fail
  go_loopw [9] (fun i wr => ∃ k : Nat, k ≤ 5 ∧ i = iv k ∧ Hid (Box wr (w.heap.size + 1) 167 (partC (partX t f m) k)) ∧ Hid (Box wr w.heap.size 167 #[iv 0, iv 0, iv 0, iv 0, iv 0]) ∧ Below w.heap.size w wr) (fun i _ => 5 - (intOf i).toNat)
  case atStart => exact ⟨0, by omega, rfl, Lib.hid (Box.new (by simp)), Lib.hid ((Box.new rfl).alloc _), up_alloc (up_alloc up0 _) _⟩
  case round =>
    obtain ⟨k, hk, rfl, HP, HQ, hB⟩ := hrel
    by_cases hlt : k < 5
    · have hlt' : (k : Int) < 5 := by omega
      have k0 : (0 : Int) ≤ (k : Int) := by omega
      have bP := HP.out
      have fP := bP.free k
      have lP := bP.lt
      have hcell : wr.cell? ⟨w.heap.size + 1, k, none⟩ = some (iv 0) := by
        rw [bP.cell]
        rcases k with _ | _ | _ | _ | _ | k <;> first | rfl | omega
      have hW : IntKind.i64.wrap ((f : Int) + (k : Int)) = (f : Int) + (k : Int) := wrapK_in _ 3000 (by omega) (by omega)
      have hset1 : ∀ x : Int, Box ((wr.setCell ⟨w.heap.size + 1, k, none⟩ (iv (-1))).setCell ⟨w.heap.size + 1, k, none⟩ (iv x)) (w.heap.size + 1) 167 ((partC (partX t f m) k).setIfInBounds k (iv x)) := fun x => by
        have := (bP.put k (iv (-1))).put k (iv x)
        rwa [set_twice] at this
      by_cases c1 : (k : Int) < (m : Int)
      · by_cases c2 : (f : Int) + (k : Int) < (t.length : Int)
        · obtain ⟨x, hx⟩ : ∃ x, t[f + k]? = some x := ⟨_, List.getElem?_eq_getElem (by omega)⟩
          obtain ⟨b, off, rfl, hb, hc⟩ := (HT.out.kept (w' := wr.setCell ⟨w.heap.size + 1, k, none⟩ (iv (-1))) (up_put hB (by simp) _)).at rfl hx
          have q0 : (wr.setCell ⟨w.heap.size + 1, k, none⟩ (iv (-1))).cell? ⟨b, off + (f + k), none⟩ = some (iv x) := by simpa using hc 0 _ rfl
          have Hp := Lib.hid (show partX t f m k = x by unfold partX; rw [if_pos ⟨by omega, by omega⟩, List.getD_eq_getElem?_getD, hx]; rfl)
          have i0 : (0 : Int) ≤ (f : Int) + (k : Int) := by omega
          have hN : ((f : Int) + (k : Int)).toNat = f + k := by omega
          clear hx hc
          go_wp2_with fail
          go_roundw
          case rel => exact ⟨k + 1, by omega, by go_num, Lib.hid (by rw [← partC_set _ k hlt, Hp.out]; exact hset1 x), Lib.hid ((HQ.out.far (p := ⟨w.heap.size + 1, k, none⟩) (by simp) _).far (p := ⟨w.heap.size + 1, k, none⟩) (by simp) _), up_put (up_put hB (by simp) _) (by simp) _⟩
          case measure => simp [intOf]; omega
        · have Hp := Lib.hid (show partX t f m k = -1 by unfold partX; rw [if_neg (by omega)])
          have b2 := bP.put k (iv (-1))
          go_wp2_with fail
          go_roundw
          case rel => exact ⟨k + 1, by omega, by go_num, Lib.hid (by rw [← partC_set _ k hlt, Hp.out]; exact b2), Lib.hid (HQ.out.far (p := ⟨w.heap.size + 1, k, none⟩) (by simp) _), up_put hB (by simp) _⟩
          case measure => simp [intOf]; omega
      · have Hp := Lib.hid (show partX t f m k = -1 by unfold partX; rw [if_neg (by omega)])
        have b2 := bP.put k (iv (-1))
        go_wp2_with fail
        go_roundw
        case rel => exact ⟨k + 1, by omega, by go_num, Lib.hid (by rw [← partC_set _ k hlt, Hp.out]; exact b2), Lib.hid (HQ.out.far (p := ⟨w.heap.size + 1, k, none⟩) (by simp) _), up_put hB (by simp) _⟩
        case measure => simp [intOf]; omega
    · obtain rfl : k = 5 := by omega
      have bP : Box wr (w.heap.size + 1) 167 #[iv (partX t f m 0), iv (partX t f m 1), iv (partX t f m 2), iv (partX t f m 3), iv (partX t f m 4)] := HP.out
      have hR : partC (partX t f m) 5 = #[iv (partX t f m 0), iv (partX t f m 1), iv (partX t f m 2), iv (partX t f m 3), iv (partX t f m 4)] := rfl
      obtain ⟨p0, e0⟩ : ∃ p, partX t f m 0 = p := ⟨_, rfl⟩
      obtain ⟨p1, e1⟩ : ∃ p, partX t f m 1 = p := ⟨_, rfl⟩
      obtain ⟨p2, e2⟩ : ∃ p, partX t f m 2 = p := ⟨_, rfl⟩
      obtain ⟨p3, e3⟩ : ∃ p, partX t f m 3 = p := ⟨_, rfl⟩
      obtain ⟨p4, e4⟩ : ∃ p, partX t f m 4 = p := ⟨_, rfl⟩
      rw [e0, e1, e2, e3, e4] at bP hR
      have HR := Lib.hid hR
      have bQ := HQ.out
      have cP := fun i => bP.cell i
      have cQ := fun i => bQ.cell i
      have fQ := fun i => bQ.free i
      have lQ := bQ.lt
      clear e0 e1 e2 e3 e4 hR
      go_wp2_with fail
      have B5 := ((((bQ.put 0 (iv p0)).put 1 (iv p1)).put 2 (iv p2)).put 3 (iv p3)).put 4 (iv p4)
      have hcs : (((((#[iv 0, iv 0, iv 0, iv 0, iv 0] : Array Value).setIfInBounds 0 (iv p0)).setIfInBounds 1 (iv p1)).setIfInBounds 2 (iv p2)).setIfInBounds 3 (iv p3)).setIfInBounds 4 (iv p4) = #[iv p0, iv p1, iv p2, iv p3, iv p4] := rfl
      rw [hcs] at B5
      have und167 : Tryz.prog.underlying 167 = _ := Tryz.underlying167
      refine bodyPost_ret (v := .agg #[iv p0, iv p1, iv p2, iv p3, iv p4]) (results_cell rfl rfl B5 und167 rfl (by kernel_rfl)) rfl ⟨by rw [HR.out], ?_⟩
      exact up_put (up_put (up_put (up_put (up_put hB (Nat.le_refl _) _) (Nat.le_refl _) _) (Nat.le_refl _) _) (Nat.le_refl _) _) (Nat.le_refl _) _
end Go.Proofs.YtonekgefegfapaaGreat
