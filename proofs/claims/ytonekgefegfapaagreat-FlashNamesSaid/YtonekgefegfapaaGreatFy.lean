/-
  WALK of decides. Conditions: at most 1000 texts of at most 1000 letters; a part that begins within 0 to 5.
-/
import Derived.Test.YtonekgefegfapaaGreatFx
namespace Go.Proofs.YtonekgefegfapaaGreat
open Go.RowKit

theorem rows_of_own {α : Type} {cells : α → List Value} {l : List α} {w : World} {base e sz n : Nat} {v : Value} (h : w.ownsRow base e sz v n (l.flatMap cells)) (hn : n = l.length) (hs : ∀ x, (cells x).length = sz) (hl : l.length ≤ 1000) : RowsAt w v sz cells l := by
  subst hn
  have h2 := h
  rcases h.2 with ⟨rfl, h0⟩ | ⟨g, cap, cur, rfl, hb, hgg, hc, hm, hr⟩
  · have : l = [] := List.eq_nil_of_length_eq_zero h0
    subst this
    exact RowsAt.nil _
  · refine ⟨hl, _, cap, rfl, hc, by unfold maxLen at hm; omega, fun _ => ⟨g, 0, rfl, (Array.getElem?_eq_some_iff.1 hgg).1, fun i x hx j u hu => ?_⟩⟩
    rw [Nat.zero_add]
    exact own_cell h2 (flat_at hs l i x hx j u hu)
/-- Texts, as they lie in memory. -/
def TextsAt (w : World) (v : Value) (ts : List (List Int)) : Prop := ∃ vs : List Value, RowsAt w v 1 (fun u => [u]) vs ∧ vs.length = ts.length ∧ ∀ (i : Nat) (u : Value) (t : List Int), vs[i]? = some u → ts[i]? = some t → RowsAt w u 1 ic t
theorem TextsAt.kept {w w' : World} {v : Value} {ts : List (List Int)} (h : TextsAt w v ts) (hb : Below w.heap.size w w') : TextsAt w' v ts := by
  obtain ⟨vs, h1, h2, h3⟩ := h
  exact ⟨vs, h1.kept hb, h2, fun i u t q1 q2 => (h3 i u t q1 q2).kept hb⟩
def partP (f m : Nat) (t : List Int) : P5 := ⟨partX t f m 0, partX t f m 1, partX t f m 2, partX t f m 3, partX t f m 4⟩
def decB (ts : List (List Int)) (f m : Nat) : Bool := decide (ts.map (partP f m)).Nodup
theorem part_info : (Tryz.prog.info? 167).map (fun i => (i.zero, i.size, i.bytes)) = some (some (.agg #[iv 0, iv 0, iv 0, iv 0, iv 0]), 5, 40) := by kernel_rfl
set_option maxRecDepth 100000 in
set_option maxHeartbeats 1500000 in
theorem decides_any (v : Value) (ts : List (List Int)) (f m : Nat) (w : World) (ht : TextsAt w v ts) (hf : f ≤ 5) : Calls Tryz.prog 97 #[v, iv f, iv m] w fun e w' => e = .returned (.bool (decB ts f m)) ∧ Below w.heap.size w w' := by
  obtain ⟨vs, h1, hlv, h3⟩ := ht
  obtain ⟨hlen, A, cap, hv, -, -⟩ := h1.form
  subst hv
  have HT := Lib.hid h1
  have H3 := Lib.hid h3
  have HLv := Lib.hid hlv
  clear h1 h3 hlv
  obtain ⟨i0, hi0, hz0, hz1, hz2⟩ := info_parts part_info
  go_enter Tryz.func97, Tryz.ntmps97
  go_wp2_with fail
  go_loopw [7, 12] (fun q i wr => ∃ k : Nat, k ≤ vs.length ∧ i = iv k ∧ Hid (wr.ownsRow w.heap.size 167 5 q k (((ts.take k).map (partP f m)).flatMap P5.cells)) ∧ Below w.heap.size w wr) (fun _ i _ => vs.length - (intOf i).toNat)
  case atStart => exact ⟨0, by omega, rfl, Lib.hid ⟨by simp, .inl ⟨rfl, rfl⟩⟩, Below.refl _ _⟩
  case round =>
    obtain ⟨k, hk, rfl, HO, hB⟩ := hrel
    by_cases hlt : k < vs.length
    · obtain ⟨y, hy⟩ : ∃ y, vs[k]? = some y := ⟨_, List.getElem?_eq_getElem hlt⟩
      obtain ⟨t, hx⟩ : ∃ t, ts[k]? = some t := ⟨_, List.getElem?_eq_getElem (by have := HLv.out; omega)⟩
      obtain ⟨b, off, rfl, hb, hc⟩ := (HT.out.kept hB).at rfl hy
      have HR := Lib.hid ((H3.out k y t hy hx).kept hB)
      obtain ⟨-, A2, cap2, hv2, -, -⟩ := HR.out.form
      subst hv2
      have q0 : wr.cell? ⟨b, off + k, none⟩ = some (.slice A2 t.length cap2) := by simpa using hc 0 _ rfl
      have Hx := Lib.hid (show ((ts.take (k + 1)).map (partP f m)).flatMap P5.cells = ((ts.take k).map (partP f m)).flatMap P5.cells ++ (partP f m t).cells by
        rw [List.take_add_one, hx]
        simp)
      clear hy hx hc
      go_wp2_with fail
      refine (partOf_any (.slice A2 t.length cap2) t f m wr HR.out hf).mono ?_
      rintro e w1 ⟨rfl, hb1⟩
      have hR : partC (partX t f m) 5 = #[iv (partP f m t).a, iv (partP f m t).b, iv (partP f m t).c, iv (partP f m t).d, iv (partP f m t).e] := rfl
      rw [hR]
      have hB1 := up_later hB hb1
      have hz1w := hB1.size
      have HO1 := Lib.hid (own_below HO.out hb1)
      clear hR hb1
      obtain ⟨A3, m3, p3, rfl⟩ := own_form HO.out
      go_wp2_with (at_builtin; refine wpList_append_own_at _ rfl (.tmp 16) (.tmp 21) 165 rfl w.heap.size 167 i0 _ 5 40 Tryz.underlying165 hi0 hz0 hz1 hz2 rfl (by decide) _ _ _ rfl (own_below HO1.out (up_alloc up0 _)) ⟨w1.heap.size, 0, none⟩ 1 1 (partP f m t).cells rfl rfl (box_newsM (Box.new rfl)) (by simp [P5.cells, Value.oneCell']) (by unfold maxLen; omega) (by omega) (by simp; omega) ?_; intro v' w3 hown' hgrow _ _)
      have hO' := own_below HO1.out (w' := w1.alloc (.cells #[iv (partP f m t).a, iv (partP f m t).b, iv (partP f m t).c, iv (partP f m t).d, iv (partP f m t).e] 167)) (up_alloc up0 _)
      go_roundw
      case rel => exact ⟨k + 1, by omega, by go_num, Lib.hid (by rw [Hx.out]; exact hown'), (up_alloc hB1 _).grown hgrow (by simp; omega) (fun b' hb' => (hO'.lt b' hb').1)⟩
      case measure => simp [intOf]; omega
    · obtain rfl : k = vs.length := by omega
      have HR := Lib.hid (show RowsAt wr u7 5 P5.cells (ts.map (partP f m)) from by
        have h := HO.out
        rw [HLv.out, List.take_of_length_le (Nat.le_refl _)] at h
        exact rows_of_own h (by simp) (fun _ => rfl) (by rw [List.length_map, ← HLv.out]; exact hlen))
      obtain ⟨A3, m3, p3, rfl⟩ := own_form HO.out
      go_wp2_with fail
      refine (differ_parts _ _ wr HR.out).mono ?_
      rintro e w2 ⟨rfl, hb⟩
      have hB2 := up_later hB hb
      clear hb
      go_wp2_with fail
      go_ret
      exact ⟨rfl, hB2⟩
end Go.Proofs.YtonekgefegfapaaGreat
