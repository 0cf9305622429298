/-
  WALKS of '(*site).hours' and of its closure, for both tests. Conditions: the test answers for each hour, and leaves the land at work.
-/
import Derived.Test.YtojbdmdjepgpjaaSt
namespace Go.Proofs.Ytojbdmdjepgpjaa
open Go.RowKit

section
variable {N N0 : Nat → Prop} {w0 w1 w2 : World} {gs gm bl : Nat} {v1 v2 v3 v4 v v' : Value} {L : Ld} {c : List (Value × List Cl)} {n : Nat} {xs : List Value}
theorem site_stored (hS : SiteN (andOwn N v) w1 gs gm v1 v2 v3 v4 L c) (h0 : SiteN N0 w0 gs gm v1 v2 v3 v4 L c) (hg : w0.grownBy w1 (some gm)) (hn : ¬ N gm) (hown : w1.ownsRow w0.heap.size 3 1 v n xs) (hbl : N bl) (hlt : w0.heap.size ≤ bl) :
    SiteN (andOwn N v) (w1.setCell ⟨bl, 0, none⟩ v) gs gm v1 v2 v3 v4 L c ∧ w0.grownBy (w1.setCell ⟨bl, 0, none⟩ v) (some gm) := by
  have hsz := h0.lt
  have hg2 : w0.grownBy (w1.setCell ⟨bl, 0, none⟩ v) (some gm) := grown_from hg ((Below.refl _ _).setCell (p := ⟨bl, 0, none⟩) hlt v)
  refine ⟨hS.own h0 hg2 (OffN.of_grown (grownBy_setCell' w1 bl v) fun b e => .inl (by cases e; exact hbl)) fun h => ?_, hg2⟩
  rcases h with h | h
  · exact hn h
  · have := (hown.lt gm h).1
    omega
end

set_option maxRecDepth 100000 in
set_option maxHeartbeats 1000000 in
theorem hours1_h (a1 a2 a3 a4 : Value) (p : Nat → Bool) (N N0 : Nat → Prop) (gs gm bt bl h n : Nat) (v1 v2 v3 v4 v : Value) (xs : List Value) (L : Ld) (c : List (Value × List Cl)) (w0 w : World)
    (hT : ∀ (N' : Nat → Prop) (h : Nat) (w' : World), h < L.sn.length → w0.grownBy w' (some gm) → SiteN N' w' gs gm v1 v2 v3 v4 L c → (∀ g, N' g → g < w'.heap.size) → ¬ N' gm →
      Calls Try.prog 55 #[.int .i64 h, a1, a2, a3, a4] w' fun e w'' => e = .returned (.bool (p h)) ∧ SiteN N' w'' gs gm v1 v2 v3 v4 L c ∧ w'.grownBy w'' (some gm))
    (hh : h < L.sn.length) (hn : n ≤ 1000) (h0 : SiteN N0 w0 gs gm v1 v2 v3 v4 L c) (hg : w0.grownBy w (some gm)) (hS : SiteN (andOwn N v) w gs gm v1 v2 v3 v4 L c) (hN : ∀ g, N g → g < w.heap.size) (hgm : ¬ N gm) (hbl : N bl) (hbl0 : w0.heap.size ≤ bl) (hbt0 : w0.heap.size ≤ bt)
    (ht : Boxed w bt 103 (.func (.func 55) #[] #[a1, a2, a3, a4])) (hl : Boxed w bl 41 v) (hown : w.ownsRow w0.heap.size 3 1 v n xs) :
    Calls Try.prog 87 #[.int .i64 h, .pointer (some ⟨bt, 0, none⟩), .pointer (some ⟨bl, 0, none⟩)] w fun e w' => (∃ r, e = .returned r) ∧ Boxed w' bt 103 (.func (.func 55) #[] #[a1, a2, a3, a4]) ∧ ∃ v', Boxed w' bl 41 v' ∧
      w'.ownsRow w0.heap.size 3 1 v' (if p h then n + 1 else n) (if p h then xs ++ [iv h] else xs) ∧ SiteN (andOwn N v') w' gs gm v1 v2 v3 v4 L c ∧ w0.grownBy w' (some gm) := by
  obtain ⟨i0, hi, hz0, hz1, hz2⟩ := info_parts int_info
  have hgl := h0.lt
  have hcall := hT (andOwn N v) h w hh hg hS (fun g hg' => hg'.elim (hN g) fun h1 => (hown.lt g h1).2) fun hg' => hg'.elim hgm fun h1 => by have := (hown.lt gm h1).1; omega
  have H0 := Lib.hid h0
  have Hg := Lib.hid hg
  have HS := Lib.hid hS
  have Hown := Lib.hid hown
  have Hl := Lib.hid hl
  have Ht := Lib.hid ht
  have Hgm := Lib.hid hgm
  have c1 := ht.cell
  have hneq : bt ≠ bl := by
    intro e
    subst e
    have := (show w.heap[bt]? = _ from ht).symm.trans (show w.heap[bt]? = _ from hl)
    simp at this
  cases hp : p h with
  | true =>
    rw [hp] at hcall
    have Hc := Lib.hid hcall
    clear hcall hT h0 hg hS hown hl ht hN hgm hp
    go_enter Try.func87, Try.ntmps87
    go_wp2_with fail
    refine Hc.out.mono ?_
    rintro e w1 ⟨rfl, hS1, hg1⟩
    have hgw := grown_trans Hg.out hg1
    have hown := own_still Hown.out hgl hg1
    have hl1 : Boxed w1 bl 41 v := Hl.out.kept hg1 (by intro e; cases e; omega)
    have ht1 := Ht.out.kept hg1 (by intro e; cases e; omega)
    have HT1 := Lib.hid ht1
    have HS1 := Lib.hid hS1
    have Hgw := Lib.hid hgw
    have hsz := hgw.size
    have c2 := hl1.cell
    clear ht1 c1 hS1 hg1 hgw
    go_wp2_with (at_builtin; refine wpList_append_own_at _ rfl _ _ 41 rfl w0.heap.size 3 i0 (.int .i64 0) 1 8 Try.underlying41 hi hz0 hz1 hz2 rfl (by decide) _ _ _ rfl (hown.alloc _) ⟨w1.heap.size, 0, none⟩ 1 1 [.int .i64 h] rfl rfl (cell_one_new _ _ _) (by simp [Value.oneCell']) (by unfold maxLen; omega) (by omega) (by simp; omega) ?_; intro v' w2 hown' hgrow _ hat; obtain ⟨g', cap', rfl⟩ := ownsRow_succ hown'; obtain ⟨hv1, hv2, hr2, _, _⟩ := hl1.appended (by decide) hown hsz hbl0 hown' hgrow; have hc1 := hv1.cell; have hf1 := hv1.frozen)
    go_end0
    obtain ⟨hS2, hg2⟩ := site_append HS1.out H0.out Hgw.out Hgm.out hown hgrow hat
    obtain ⟨hS3, hg3⟩ := site_stored hS2 H0.out hg2 Hgm.out hown' hbl hbl0
    exact ⟨⟨_, rfl⟩, (((HT1.out.alloc _).kept hgrow (HT1.out.not_row (by decide) hown)).other hneq _), _, hv2, by simpa using hr2, hS3, hg3⟩
  | false =>
    rw [hp] at hcall
    have Hc := Lib.hid hcall
    clear hcall hT h0 hg hS hown hl ht hN hgm hp
    go_enter Try.func87, Try.ntmps87
    go_wp2_with fail
    refine Hc.out.mono ?_
    rintro e w1 ⟨rfl, hS1, hg1⟩
    have hgw := grown_trans Hg.out hg1
    have hown := own_still Hown.out hgl hg1
    have hl1 : Boxed w1 bl 41 v := Hl.out.kept hg1 (by intro e; cases e; omega)
    have ht1 := Ht.out.kept hg1 (by intro e; cases e; omega)
    have HT1 := Lib.hid ht1
    have HL1 := Lib.hid hl1
    have HO1 := Lib.hid hown
    clear hl1 ht1 hown c1
    go_wp2_with fail
    go_end0
    exact ⟨⟨_, rfl⟩, HT1.out, v, HL1.out, by simpa using HO1.out, hS1, hgw⟩

set_option maxRecDepth 100000 in
set_option maxHeartbeats 1000000 in
theorem hours_h (a1 a2 a3 a4 : Value) (p : Nat → Bool) (N0 : Nat → Prop) (gs gm : Nat) (v1 v2 v3 v4 : Value) (L : Ld) (c : List (Value × List Cl)) (w : World)
    (hT : ∀ (N' : Nat → Prop) (h : Nat) (w' : World), h < L.sn.length → w.grownBy w' (some gm) → SiteN N' w' gs gm v1 v2 v3 v4 L c → (∀ g, N' g → g < w'.heap.size) → ¬ N' gm →
      Calls Try.prog 55 #[.int .i64 h, a1, a2, a3, a4] w' fun e w'' => e = .returned (.bool (p h)) ∧ SiteN N' w'' gs gm v1 v2 v3 v4 L c ∧ w'.grownBy w'' (some gm))
    (h0 : SiteN N0 w gs gm v1 v2 v3 v4 L c) (hgm : ¬ N0 gm) (hN : ∀ g, N0 g → g < w.heap.size) :
    Calls Try.prog 54 #[.pointer (some ⟨gs, 0, none⟩), .func (.func 55) #[] #[a1, a2, a3, a4]] w fun e w' => ∃ v, e = .returned v ∧
      RowsAt w' v 1 (fun n => [iv n]) (uptoF p L.sn.length) ∧ SiteN N0 w' gs gm v1 v2 v3 v4 L c ∧ w.grownBy w' (some gm) := by
  obtain ⟨hn4, A4, cap4, rfl, _, _⟩ := h0.land.sn.form
  have hX := (h0.box.alloc (.cells #[.func (.func 55) #[] #[a1, a2, a3, a4]] 103)).alloc (.cells #[.slice none 0 0] 41)
  have c_hX := fun i => hX.cell i
  have HT := Lib.hid hT
  have H0 := Lib.hid h0
  have Hgm := Lib.hid hgm
  have HN := Lib.hid hN
  have hlt := h0.lt
  clear hT h0 hgm hN
  go_enter Try.func54, Try.ntmps54
  go_wp2_with fail
  have HB1 : Boxed ((w.alloc (.cells #[.func (.func 55) #[] #[a1, a2, a3, a4]] 103)).alloc (.cells #[.slice none 0 0] 41)) w.heap.size 103 (.func (.func 55) #[] #[a1, a2, a3, a4]) := (Boxed.new w 103 _).alloc _
  have HB2 : Boxed ((w.alloc (.cells #[.func (.func 55) #[] #[a1, a2, a3, a4]] 103)).alloc (.cells #[.slice none 0 0] 41)) (w.heap.size + 1) 41 (.slice none 0 0) := by have h := Boxed.new (w.alloc (.cells #[.func (.func 55) #[] #[a1, a2, a3, a4]] 103)) 41 (.slice none 0 0); simpa using h
  have HU := up_alloc (up_alloc (up0 (w := w)) (.cells #[.func (.func 55) #[] #[a1, a2, a3, a4]] 103)) (.cells #[.slice none 0 0] 41)
  obtain ⟨Nh, hNh⟩ : ∃ Nh : Nat → Prop, Nh = fun b => N0 b ∨ b = w.heap.size + 1 := ⟨_, rfl⟩
  have hS0 : SiteN (andOwn Nh (.slice none 0 0)) w gs gm v1 v2 v3 (.slice A4 L.sn.length cap4) L c := H0.out.more fun b hb h => by
    subst hNh
    rcases h with (h | h) | h
    · exact h
    · omega
    · cases h
  have HNh := Lib.hid hNh
  have HS0 := Lib.hid (hS0.kept HU)
  have HUU := Lib.hid HU
  clear c_hX hX hNh hS0 HU
  go_loopw [15] (fun q wr => ∃ k : Nat, k ≤ L.sn.length ∧ q = .int .i64 k ∧ Boxed wr w.heap.size 103 (.func (.func 55) #[] #[a1, a2, a3, a4]) ∧ ∃ v, Boxed wr (w.heap.size + 1) 41 v ∧ wr.ownsRow w.heap.size 3 1 v (uptoF p k).length ((uptoF p k).map iv) ∧
    Hid (SiteN (andOwn Nh v) wr gs gm v1 v2 v3 (.slice A4 L.sn.length cap4) L c) ∧ Hid (w.grownBy wr (some gm))) (fun q _ => L.sn.length - (intOf q).toNat)
  case atStart => exact ⟨0, by omega, rfl, HB1, _, HB2, World.ownsRow_nil _ _ _ _, HS0.out, grown_below HUU.out⟩
  case round =>
    clear HB1 HB2 HS0 HUU
    obtain ⟨k, hk, rfl, ht, v, hl, hown, hSn, hg⟩ := hrel
    have hlen := uptoF_length (p := p) (k := k)
    have HO := Lib.hid hown
    have HL := Lib.hid hl
    by_cases hlt2 : k < L.sn.length
    · have hsz := hg.out.size
      have hgl := ht.lt
      have hll := hl.lt
      have Hc := Lib.hid (hours1_h a1 a2 a3 a4 p Nh N0 gs gm w.heap.size (w.heap.size + 1) k (uptoF p k).length v1 v2 v3 (.slice A4 L.sn.length cap4) v ((uptoF p k).map iv) L c w wr HT.out hlt2 (by omega) H0.out hg.out hSn.out (fun g h => by rw [HNh.out] at h; rcases h with h | h; exact Nat.lt_of_lt_of_le (HN.out g h) hsz; omega) (fun h => by rw [HNh.out] at h; rcases h with h | h; exact Hgm.out h; omega) (by rw [HNh.out]; exact .inr rfl) (by omega) (by omega) ht hl hown)
      clear hown hl ht hg hSn
      go_wp2_with fail
      refine Hc.out.mono ?_
      rintro e w1 ⟨⟨r, rfl⟩, ht1, v', hl1, hown1, hS1, hg1⟩
      have HO1 := Lib.hid hown1
      clear hown1
      go_wp2_with fail
      refine ⟨⟨k + 1, by omega, by go_num, ht1, v', hl1, ?_, hS1, hg1⟩, ?_⟩
      · have h := HO1.out
        cases hp : p k with
        | true =>
          rw [hp] at h
          rw [uptoF_yes hp]
          simpa using h
        | false =>
          rw [hp] at h
          rw [uptoF_no hp]
          simpa using h
      · simp [intOf]; omega
    · obtain rfl : k = L.sn.length := by omega
      have c2 := hl.cell
      clear hown ht
      go_wp2_with fail
      go_ret
      exact ⟨_, rfl, RowsAt.of_own HO.out (by omega), hSn.out.more fun b _ hb => .inl (by rw [HNh.out]; exact .inl hb), hg.out⟩
set_option maxRecDepth 100000 in
set_option maxHeartbeats 1000000 in
theorem hours1_a (a1 a2 a3 : Value) (p : Nat → Bool) (N N0 : Nat → Prop) (gs gm bt bl h n : Nat) (v1 v2 v3 v4 v : Value) (xs : List Value) (L : Ld) (c : List (Value × List Cl)) (w0 w : World)
    (hT : ∀ (N' : Nat → Prop) (h : Nat) (w' : World), h < L.sn.length → w0.grownBy w' (some gm) → SiteN N' w' gs gm v1 v2 v3 v4 L c → (∀ g, N' g → g < w'.heap.size) → ¬ N' gm →
      Calls Try.prog 57 #[.int .i64 h, a1, a2, a3] w' fun e w'' => e = .returned (.bool (p h)) ∧ SiteN N' w'' gs gm v1 v2 v3 v4 L c ∧ w'.grownBy w'' (some gm))
    (hh : h < L.sn.length) (hn : n ≤ 1000) (h0 : SiteN N0 w0 gs gm v1 v2 v3 v4 L c) (hg : w0.grownBy w (some gm)) (hS : SiteN (andOwn N v) w gs gm v1 v2 v3 v4 L c) (hN : ∀ g, N g → g < w.heap.size) (hgm : ¬ N gm) (hbl : N bl) (hbl0 : w0.heap.size ≤ bl) (hbt0 : w0.heap.size ≤ bt)
    (ht : Boxed w bt 103 (.func (.func 57) #[] #[a1, a2, a3])) (hl : Boxed w bl 41 v) (hown : w.ownsRow w0.heap.size 3 1 v n xs) :
    Calls Try.prog 87 #[.int .i64 h, .pointer (some ⟨bt, 0, none⟩), .pointer (some ⟨bl, 0, none⟩)] w fun e w' => (∃ r, e = .returned r) ∧ Boxed w' bt 103 (.func (.func 57) #[] #[a1, a2, a3]) ∧ ∃ v', Boxed w' bl 41 v' ∧
      w'.ownsRow w0.heap.size 3 1 v' (if p h then n + 1 else n) (if p h then xs ++ [iv h] else xs) ∧ SiteN (andOwn N v') w' gs gm v1 v2 v3 v4 L c ∧ w0.grownBy w' (some gm) := by
  obtain ⟨i0, hi, hz0, hz1, hz2⟩ := info_parts int_info
  have hgl := h0.lt
  have hcall := hT (andOwn N v) h w hh hg hS (fun g hg' => hg'.elim (hN g) fun h1 => (hown.lt g h1).2) fun hg' => hg'.elim hgm fun h1 => by have := (hown.lt gm h1).1; omega
  have H0 := Lib.hid h0
  have Hg := Lib.hid hg
  have HS := Lib.hid hS
  have Hown := Lib.hid hown
  have Hl := Lib.hid hl
  have Ht := Lib.hid ht
  have Hgm := Lib.hid hgm
  have c1 := ht.cell
  have hneq : bt ≠ bl := by
    intro e
    subst e
    have := (show w.heap[bt]? = _ from ht).symm.trans (show w.heap[bt]? = _ from hl)
    simp at this
  cases hp : p h with
  | true =>
    rw [hp] at hcall
    have Hc := Lib.hid hcall
    clear hcall hT h0 hg hS hown hl ht hN hgm hp
    go_enter Try.func87, Try.ntmps87
    go_wp2_with fail
    refine Hc.out.mono ?_
    rintro e w1 ⟨rfl, hS1, hg1⟩
    have hgw := grown_trans Hg.out hg1
    have hown := own_still Hown.out hgl hg1
    have hl1 : Boxed w1 bl 41 v := Hl.out.kept hg1 (by intro e; cases e; omega)
    have ht1 := Ht.out.kept hg1 (by intro e; cases e; omega)
    have HT1 := Lib.hid ht1
    have HS1 := Lib.hid hS1
    have Hgw := Lib.hid hgw
    have hsz := hgw.size
    have c2 := hl1.cell
    clear ht1 c1 hS1 hg1 hgw
    go_wp2_with (at_builtin; refine wpList_append_own_at _ rfl _ _ 41 rfl w0.heap.size 3 i0 (.int .i64 0) 1 8 Try.underlying41 hi hz0 hz1 hz2 rfl (by decide) _ _ _ rfl (hown.alloc _) ⟨w1.heap.size, 0, none⟩ 1 1 [.int .i64 h] rfl rfl (cell_one_new _ _ _) (by simp [Value.oneCell']) (by unfold maxLen; omega) (by omega) (by simp; omega) ?_; intro v' w2 hown' hgrow _ hat; obtain ⟨g', cap', rfl⟩ := ownsRow_succ hown'; obtain ⟨hv1, hv2, hr2, _, _⟩ := hl1.appended (by decide) hown hsz hbl0 hown' hgrow; have hc1 := hv1.cell; have hf1 := hv1.frozen)
    go_end0
    obtain ⟨hS2, hg2⟩ := site_append HS1.out H0.out Hgw.out Hgm.out hown hgrow hat
    obtain ⟨hS3, hg3⟩ := site_stored hS2 H0.out hg2 Hgm.out hown' hbl hbl0
    exact ⟨⟨_, rfl⟩, (((HT1.out.alloc _).kept hgrow (HT1.out.not_row (by decide) hown)).other hneq _), _, hv2, by simpa using hr2, hS3, hg3⟩
  | false =>
    rw [hp] at hcall
    have Hc := Lib.hid hcall
    clear hcall hT h0 hg hS hown hl ht hN hgm hp
    go_enter Try.func87, Try.ntmps87
    go_wp2_with fail
    refine Hc.out.mono ?_
    rintro e w1 ⟨rfl, hS1, hg1⟩
    have hgw := grown_trans Hg.out hg1
    have hown := own_still Hown.out hgl hg1
    have hl1 : Boxed w1 bl 41 v := Hl.out.kept hg1 (by intro e; cases e; omega)
    have ht1 := Ht.out.kept hg1 (by intro e; cases e; omega)
    have HT1 := Lib.hid ht1
    have HL1 := Lib.hid hl1
    have HO1 := Lib.hid hown
    clear hl1 ht1 hown c1
    go_wp2_with fail
    go_end0
    exact ⟨⟨_, rfl⟩, HT1.out, v, HL1.out, by simpa using HO1.out, hS1, hgw⟩

set_option maxRecDepth 100000 in
set_option maxHeartbeats 1000000 in
theorem hours_a (a1 a2 a3 : Value) (p : Nat → Bool) (N0 : Nat → Prop) (gs gm : Nat) (v1 v2 v3 v4 : Value) (L : Ld) (c : List (Value × List Cl)) (w : World)
    (hT : ∀ (N' : Nat → Prop) (h : Nat) (w' : World), h < L.sn.length → w.grownBy w' (some gm) → SiteN N' w' gs gm v1 v2 v3 v4 L c → (∀ g, N' g → g < w'.heap.size) → ¬ N' gm →
      Calls Try.prog 57 #[.int .i64 h, a1, a2, a3] w' fun e w'' => e = .returned (.bool (p h)) ∧ SiteN N' w'' gs gm v1 v2 v3 v4 L c ∧ w'.grownBy w'' (some gm))
    (h0 : SiteN N0 w gs gm v1 v2 v3 v4 L c) (hgm : ¬ N0 gm) (hN : ∀ g, N0 g → g < w.heap.size) :
    Calls Try.prog 54 #[.pointer (some ⟨gs, 0, none⟩), .func (.func 57) #[] #[a1, a2, a3]] w fun e w' => ∃ v, e = .returned v ∧
      RowsAt w' v 1 (fun n => [iv n]) (uptoF p L.sn.length) ∧ SiteN N0 w' gs gm v1 v2 v3 v4 L c ∧ w.grownBy w' (some gm) := by
  obtain ⟨hn4, A4, cap4, rfl, _, _⟩ := h0.land.sn.form
  have hX := (h0.box.alloc (.cells #[.func (.func 57) #[] #[a1, a2, a3]] 103)).alloc (.cells #[.slice none 0 0] 41)
  have c_hX := fun i => hX.cell i
  have HT := Lib.hid hT
  have H0 := Lib.hid h0
  have Hgm := Lib.hid hgm
  have HN := Lib.hid hN
  have hlt := h0.lt
  clear hT h0 hgm hN
  go_enter Try.func54, Try.ntmps54
  go_wp2_with fail
  have HB1 : Boxed ((w.alloc (.cells #[.func (.func 57) #[] #[a1, a2, a3]] 103)).alloc (.cells #[.slice none 0 0] 41)) w.heap.size 103 (.func (.func 57) #[] #[a1, a2, a3]) := (Boxed.new w 103 _).alloc _
  have HB2 : Boxed ((w.alloc (.cells #[.func (.func 57) #[] #[a1, a2, a3]] 103)).alloc (.cells #[.slice none 0 0] 41)) (w.heap.size + 1) 41 (.slice none 0 0) := by have h := Boxed.new (w.alloc (.cells #[.func (.func 57) #[] #[a1, a2, a3]] 103)) 41 (.slice none 0 0); simpa using h
  have HU := up_alloc (up_alloc (up0 (w := w)) (.cells #[.func (.func 57) #[] #[a1, a2, a3]] 103)) (.cells #[.slice none 0 0] 41)
  obtain ⟨Nh, hNh⟩ : ∃ Nh : Nat → Prop, Nh = fun b => N0 b ∨ b = w.heap.size + 1 := ⟨_, rfl⟩
  have hS0 : SiteN (andOwn Nh (.slice none 0 0)) w gs gm v1 v2 v3 (.slice A4 L.sn.length cap4) L c := H0.out.more fun b hb h => by
    subst hNh
    rcases h with (h | h) | h
    · exact h
    · omega
    · cases h
  have HNh := Lib.hid hNh
  have HS0 := Lib.hid (hS0.kept HU)
  have HUU := Lib.hid HU
  clear c_hX hX hNh hS0 HU
  go_loopw [15] (fun q wr => ∃ k : Nat, k ≤ L.sn.length ∧ q = .int .i64 k ∧ Boxed wr w.heap.size 103 (.func (.func 57) #[] #[a1, a2, a3]) ∧ ∃ v, Boxed wr (w.heap.size + 1) 41 v ∧ wr.ownsRow w.heap.size 3 1 v (uptoF p k).length ((uptoF p k).map iv) ∧
    Hid (SiteN (andOwn Nh v) wr gs gm v1 v2 v3 (.slice A4 L.sn.length cap4) L c) ∧ Hid (w.grownBy wr (some gm))) (fun q _ => L.sn.length - (intOf q).toNat)
  case atStart => exact ⟨0, by omega, rfl, HB1, _, HB2, World.ownsRow_nil _ _ _ _, HS0.out, grown_below HUU.out⟩
  case round =>
    clear HB1 HB2 HS0 HUU
    obtain ⟨k, hk, rfl, ht, v, hl, hown, hSn, hg⟩ := hrel
    have hlen := uptoF_length (p := p) (k := k)
    have HO := Lib.hid hown
    have HL := Lib.hid hl
    by_cases hlt2 : k < L.sn.length
    · have hsz := hg.out.size
      have hgl := ht.lt
      have hll := hl.lt
      have Hc := Lib.hid (hours1_a a1 a2 a3 p Nh N0 gs gm w.heap.size (w.heap.size + 1) k (uptoF p k).length v1 v2 v3 (.slice A4 L.sn.length cap4) v ((uptoF p k).map iv) L c w wr HT.out hlt2 (by omega) H0.out hg.out hSn.out (fun g h => by rw [HNh.out] at h; rcases h with h | h; exact Nat.lt_of_lt_of_le (HN.out g h) hsz; omega) (fun h => by rw [HNh.out] at h; rcases h with h | h; exact Hgm.out h; omega) (by rw [HNh.out]; exact .inr rfl) (by omega) (by omega) ht hl hown)
      clear hown hl ht hg hSn
      go_wp2_with fail
      refine Hc.out.mono ?_
      rintro e w1 ⟨⟨r, rfl⟩, ht1, v', hl1, hown1, hS1, hg1⟩
      have HO1 := Lib.hid hown1
      clear hown1
      go_wp2_with fail
      refine ⟨⟨k + 1, by omega, by go_num, ht1, v', hl1, ?_, hS1, hg1⟩, ?_⟩
      · have h := HO1.out
        cases hp : p k with
        | true =>
          rw [hp] at h
          rw [uptoF_yes hp]
          simpa using h
        | false =>
          rw [hp] at h
          rw [uptoF_no hp]
          simpa using h
      · simp [intOf]; omega
    · obtain rfl : k = L.sn.length := by omega
      have c2 := hl.cell
      clear hown ht
      go_wp2_with fail
      go_ret
      exact ⟨_, rfl, RowsAt.of_own HO.out (by omega), hSn.out.more fun b _ hb => .inl (by rw [HNh.out]; exact .inl hb), hg.out⟩

end Go.Proofs.Ytojbdmdjepgpjaa
