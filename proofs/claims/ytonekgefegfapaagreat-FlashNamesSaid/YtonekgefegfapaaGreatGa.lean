/-
  WALKS of checkTexts and Repeat. No condition.
-/
import Derived.Test.YtonekgefegfapaaGreatFz
namespace Go.Proofs.YtonekgefegfapaaGreat
open Go.RowKit

def pc (p : Value × List Int) : List Value := [p.1]
/-- Texts that came in, of any number and any length. -/
def TextsAny (w : World) (v : Value) (ps : List (Value × List Int)) : Prop := RowsAny w v 1 pc ps ∧ ∀ p ∈ ps, RowsAny w p.1 1 ic p.2
theorem TextsAny.kept {w w' : World} {v : Value} {ps : List (Value × List Int)} (h : TextsAny w v ps) (hb : Below w.heap.size w w') : TextsAny w' v ps := ⟨h.1.kept hb, fun p hp => (h.2 p hp).kept hb⟩
theorem TextsAny.at_ {w : World} {v : Value} {ps : List (Value × List Int)} (h : TextsAny w v ps) (hn : ps.length ≤ 1000) (hs : ∀ p ∈ ps, p.2.length ≤ 1000) : TextsAt w v (ps.map (·.2)) := by
  refine ⟨ps.map (·.1), ?_, by simp, fun i u t hu ht => ?_⟩
  · obtain ⟨A, cap, h1, h2, h3, h4⟩ := h.1
    refine ⟨by simpa using hn, A, cap, by simpa using h1, by simpa using h2, h3, fun hne => ?_⟩
    obtain ⟨b, off, e, hlt, hc⟩ := h4 (fun e => hne (by rw [e]; rfl))
    refine ⟨b, off, e, hlt, fun i x hx j u hu => ?_⟩
    rw [List.getElem?_map, Option.map_eq_some_iff] at hx
    obtain ⟨p, hp, rfl⟩ := hx
    exact hc i p hp j u hu
  · rw [List.getElem?_map, Option.map_eq_some_iff] at hu ht
    obtain ⟨p, hp, rfl⟩ := hu
    obtain ⟨p', hp', rfl⟩ := ht
    rw [hp] at hp'
    obtain rfl := Option.some.inj hp'
    exact (h.2 p (List.mem_of_getElem? hp)).rows (hs p (List.mem_of_getElem? hp))
set_option maxHeartbeats 400000 in
theorem fits_any (v : Value) (l : List Int) (w : World) (hl : RowsAny w v 1 ic l) : Calls Tryz.prog 93 #[v] w fun e w' => e = .returned (.bool (decide (l.length ≤ 5))) ∧ Below w.heap.size w w' := by
  obtain ⟨A, cap, hv, -, -⟩ := hl.form
  subst hv
  go_enter Tryz.func93, Tryz.ntmps93
  go_wp2_with fail
  go_ret
  exact ⟨ret_bool (by rw [decide_eq_decide]; omega), up0⟩
set_option maxHeartbeats 400000 in
theorem known_any (x : Int) (w : World) : Calls Tryz.prog 94 #[.int .i64 x] w fun e w' => e = .returned (.bool (letB 6 x)) ∧ Below w.heap.size w w' := by
  by_cases h0 : (0 : Int) ≤ x
  · have Hr := Lib.hid (show decide (x < 6) = letB 6 x by unfold letB; rw [decide_eq_true h0, Bool.true_and]; rfl)
    go_enter Tryz.func94, Tryz.ntmps94
    go_wp2_with fail
    go_ret
    exact ⟨ret_bool Hr.out, up0⟩
  · have Hr := Lib.hid (show false = letB 6 x by unfold letB; rw [decide_eq_false h0, Bool.false_and])
    go_enter Tryz.func94, Tryz.ntmps94
    go_wp2_with fail
    go_ret
    exact ⟨ret_bool Hr.out, up0⟩
set_option maxRecDepth 100000 in
set_option maxHeartbeats 1000000 in
theorem every_known (v : Value) (l : List Int) (_c : Value) (p : Int → Bool) (w : World) (hl : RowsAt w v 1 ic l)
    (hf : ∀ x ∈ l, ∀ w1, Below w.heap.size w w1 → Calls Tryz.prog 94 #[.int .i64 x] w1 fun e w2 => e = .returned (.bool (p x)) ∧ Below w1.heap.size w1 w2) :
    Calls Tryz.prog 53 #[v, .func (.func 94) #[] #[]] w fun e w' => e = .returned (.bool (l.all p)) ∧ Below w.heap.size w w' := by
  obtain ⟨hlen, A, cap, hv, hcap, hmax⟩ := hl.form
  subst hv
  clear hcap hmax
  go_enter Tryz.func53, Tryz.ntmps53
  go_wp2
  go_loopw [9] (fun i wr => ∃ k : Nat, k ≤ l.length ∧ i = .int .i64 k ∧ Hid ((l.take k).all p = true) ∧ Below w.heap.size w wr) (fun i _ => l.length - (intOf i).toNat)
  case atStart => exact ⟨0, by omega, rfl, by simp [Hid], Below.refl _ _⟩
  case round =>
    obtain ⟨k, hk, rfl, hall, hB⟩ := hrel
    by_cases hlt : k < l.length
    · obtain ⟨x, hx⟩ : ∃ x, l[k]? = some x := ⟨_, List.getElem?_eq_getElem hlt⟩
      obtain ⟨b, off, rfl, hb, hc⟩ := (hl.kept hB).at rfl hx
      have hcall := hf x (List.mem_of_getElem? hx)
      have Hx := Lib.hid hx
      clear hx
      have q0 : wr.cell? ⟨b, off + k, none⟩ = some (.int .i64 x) := by simpa using hc 0 _ rfl
      clear hc
      cases hp : p x with
      | true =>
        have Hp := Lib.hid hp
        rw [hp] at hcall
        clear hp
        have Hf := Lib.hid hcall
        clear hcall hf
        go_wp2_with fail
        refine (Hf.out _ hB).mono ?_
        rintro e w1 ⟨rfl, hb1⟩
        go_wp2
        go_roundw
        case rel => exact ⟨k + 1, by omega, by go_num, all_take_succ Hx.out hall.out Hp.out, up_later hB hb1⟩
        case measure => simp [intOf]; omega
      | false =>
        have Hp := Lib.hid hp
        rw [hp] at hcall
        clear hp
        have Hf := Lib.hid hcall
        clear hcall hf
        go_wp2_with fail
        refine (Hf.out _ hB).mono ?_
        rintro e w1 ⟨rfl, hb1⟩
        go_wp2
        go_ret
        exact ⟨ret_bool (all_false Hx.out Hp.out).symm, up_later hB hb1⟩
    · go_wp2
      go_ret
      exact ⟨ret_bool (by have h := hall.out; rw [List.take_of_length_le (by omega)] at h; exact h.symm), hB⟩
set_option maxHeartbeats 400000 in
theorem spelled_any (v : Value) (l : List Int) (g : Nat) (w : World) (hl : RowsAt w v 1 ic l) (hg : Box w g 81 #[.func (.func 94) #[] #[]]) : Calls Tryz.prog 95 #[v, .pointer (some ⟨g, 0, none⟩)] w fun e w' => e = .returned (.bool (l.all (letB 6))) ∧ Below w.heap.size w w' := by
  obtain ⟨-, A, cap, hv, -, -⟩ := hl.form
  subst hv
  have HL := Lib.hid hl
  have cg := fun i => hg.cell i
  clear hl hg
  go_enter Tryz.func95, Tryz.ntmps95
  go_wp2_with fail
  refine (every_known _ l (iv 0) (letB 6) w HL.out (fun x _ w1 _ => known_any x w1)).mono ?_
  rintro e w1 ⟨rfl, hb⟩
  obtain ⟨B, hB⟩ : ∃ B, l.all (letB 6) = B := ⟨_, rfl⟩
  rw [hB]
  have HB := Lib.hid hB
  clear hB
  go_wp2_with fail
  go_ret
  exact ⟨by rw [HB.out]; rfl, hb⟩
set_option maxRecDepth 100000 in
set_option maxHeartbeats 1000000 in
theorem every_fitt (v : Value) (l : List (Value × List Int)) (_c : Value) (p : (Value × List Int) → Bool) (w : World) (hl : RowsAt w v 1 pc l)
    (hf : ∀ x ∈ l, ∀ w1, Below w.heap.size w w1 → Calls Tryz.prog 93 #[x.1] w1 fun e w2 => e = .returned (.bool (p x)) ∧ Below w1.heap.size w1 w2) :
    Calls Tryz.prog 96 #[v, .func (.func 93) #[] #[]] w fun e w' => e = .returned (.bool (l.all p)) ∧ Below w.heap.size w w' := by
  obtain ⟨hlen, A, cap, hv, hcap, hmax⟩ := hl.form
  subst hv
  clear hcap hmax
  go_enter Tryz.func96, Tryz.ntmps96
  go_wp2
  go_loopw [9] (fun i wr => ∃ k : Nat, k ≤ l.length ∧ i = .int .i64 k ∧ Hid ((l.take k).all p = true) ∧ Below w.heap.size w wr) (fun i _ => l.length - (intOf i).toNat)
  case atStart => exact ⟨0, by omega, rfl, by simp [Hid], Below.refl _ _⟩
  case round =>
    obtain ⟨k, hk, rfl, hall, hB⟩ := hrel
    by_cases hlt : k < l.length
    · obtain ⟨x, hx⟩ : ∃ x, l[k]? = some x := ⟨_, List.getElem?_eq_getElem hlt⟩
      obtain ⟨b, off, rfl, hb, hc⟩ := (hl.kept hB).at rfl hx
      have hcall := hf x (List.mem_of_getElem? hx)
      have Hx := Lib.hid hx
      clear hx
      have q0 : wr.cell? ⟨b, off + k, none⟩ = some x.1 := by simpa using hc 0 _ rfl
      clear hc
      cases hp : p x with
      | true =>
        have Hp := Lib.hid hp
        rw [hp] at hcall
        clear hp
        have Hf := Lib.hid hcall
        clear hcall hf
        go_wp2_with fail
        refine (Hf.out _ hB).mono ?_
        rintro e w1 ⟨rfl, hb1⟩
        go_wp2
        go_roundw
        case rel => exact ⟨k + 1, by omega, by go_num, all_take_succ Hx.out hall.out Hp.out, up_later hB hb1⟩
        case measure => simp [intOf]; omega
      | false =>
        have Hp := Lib.hid hp
        rw [hp] at hcall
        clear hp
        have Hf := Lib.hid hcall
        clear hcall hf
        go_wp2_with fail
        refine (Hf.out _ hB).mono ?_
        rintro e w1 ⟨rfl, hb1⟩
        go_wp2
        go_ret
        exact ⟨ret_bool (all_false Hx.out Hp.out).symm, up_later hB hb1⟩
    · go_wp2
      go_ret
      exact ⟨ret_bool (by have h := hall.out; rw [List.take_of_length_le (by omega)] at h; exact h.symm), hB⟩
set_option maxRecDepth 100000 in
set_option maxHeartbeats 1000000 in
theorem every_spld (v : Value) (l : List (Value × List Int)) (c : Value) (p : (Value × List Int) → Bool) (w : World) (hl : RowsAt w v 1 pc l)
    (hf : ∀ x ∈ l, ∀ w1, Below w.heap.size w w1 → Calls Tryz.prog 95 #[x.1, c] w1 fun e w2 => e = .returned (.bool (p x)) ∧ Below w1.heap.size w1 w2) :
    Calls Tryz.prog 96 #[v, .func (.func 95) #[] #[c]] w fun e w' => e = .returned (.bool (l.all p)) ∧ Below w.heap.size w w' := by
  obtain ⟨hlen, A, cap, hv, hcap, hmax⟩ := hl.form
  subst hv
  clear hcap hmax
  go_enter Tryz.func96, Tryz.ntmps96
  go_wp2
  go_loopw [9] (fun i wr => ∃ k : Nat, k ≤ l.length ∧ i = .int .i64 k ∧ Hid ((l.take k).all p = true) ∧ Below w.heap.size w wr) (fun i _ => l.length - (intOf i).toNat)
  case atStart => exact ⟨0, by omega, rfl, by simp [Hid], Below.refl _ _⟩
  case round =>
    obtain ⟨k, hk, rfl, hall, hB⟩ := hrel
    by_cases hlt : k < l.length
    · obtain ⟨x, hx⟩ : ∃ x, l[k]? = some x := ⟨_, List.getElem?_eq_getElem hlt⟩
      obtain ⟨b, off, rfl, hb, hc⟩ := (hl.kept hB).at rfl hx
      have hcall := hf x (List.mem_of_getElem? hx)
      have Hx := Lib.hid hx
      clear hx
      have q0 : wr.cell? ⟨b, off + k, none⟩ = some x.1 := by simpa using hc 0 _ rfl
      clear hc
      cases hp : p x with
      | true =>
        have Hp := Lib.hid hp
        rw [hp] at hcall
        clear hp
        have Hf := Lib.hid hcall
        clear hcall hf
        go_wp2_with fail
        refine (Hf.out _ hB).mono ?_
        rintro e w1 ⟨rfl, hb1⟩
        go_wp2
        go_roundw
        case rel => exact ⟨k + 1, by omega, by go_num, all_take_succ Hx.out hall.out Hp.out, up_later hB hb1⟩
        case measure => simp [intOf]; omega
      | false =>
        have Hp := Lib.hid hp
        rw [hp] at hcall
        clear hp
        have Hf := Lib.hid hcall
        clear hcall hf
        go_wp2_with fail
        refine (Hf.out _ hB).mono ?_
        rintro e w1 ⟨rfl, hb1⟩
        go_wp2
        go_ret
        exact ⟨ret_bool (all_false Hx.out Hp.out).symm, up_later hB hb1⟩
    · go_wp2
      go_ret
      exact ⟨ret_bool (by have h := hall.out; rw [List.take_of_length_le (by omega)] at h; exact h.symm), hB⟩
def fitB5 (p : Value × List Int) : Bool := decide (p.2.length ≤ 5)
def spellB (p : Value × List Int) : Bool := p.2.all (letB 6)
/-- The error of texts of which a part is to be repeated. -/
def txtE (ps : List (Value × List Int)) : Int := if 64 < ps.length ∨ ps.all fitB5 = false then 3 else if ps.length = 0 ∨ ps.all spellB = false then 2 else if decB (ps.map (·.2)) 0 5 = false then 6 else 0
set_option maxRecDepth 100000 in
set_option maxHeartbeats 3000000 in
theorem checkTexts_any (v : Value) (ps : List (Value × List Int)) (w : World) (ht : TextsAny w v ps) : Calls Tryz.prog 69 #[v] w fun e w' => e = .returned (iv (txtE ps)) ∧ Below w.heap.size w w' := by
  obtain ⟨A, cap, hv, -, -⟩ := ht.1.form
  subst hv
  have HT := Lib.hid ht
  by_cases h64 : (64 : Int) < (ps.length : Int)
  · have Hr := Lib.hid (show txtE ps = 3 by unfold txtE; rw [if_pos (.inl (by omega))])
    clear ht
    go_enter Tryz.func69, Tryz.ntmps69
    have B1 := Box.new (w := w) (t := 81) (cs := #[.func (.func 94) #[] #[]]) rfl
    have c1 := fun i => B1.cell i
    go_wp2_with fail
    go_ret
    exact ⟨by rw [Hr.out]; rfl, up_alloc up0 _⟩
  · have HR := Lib.hid (ht.1.rows (by omega))
    clear ht
    cases h1 : ps.all fitB5 with
    | false =>
      have H1 := Lib.hid h1
      have Hr := Lib.hid (show txtE ps = 3 by unfold txtE; rw [if_pos (.inr h1)])
      clear h1
      go_enter Tryz.func69, Tryz.ntmps69
      have B1 := Box.new (w := w) (t := 81) (cs := #[.func (.func 94) #[] #[]]) rfl
      have c1 := fun i => B1.cell i
      go_wp2_with fail
      refine (every_fitt _ ps (iv 0) fitB5 _ (HR.out.kept (up_alloc up0 _)) (fun p hp w1 hb1 => fits_any p.1 p.2 w1 ((HT.out.2 p hp).kept (up_later (up_alloc up0 _) hb1)))).mono ?_
      rintro e w1 ⟨rfl, hb⟩
      have hB := up_later (up_alloc up0 _) hb
      rw [H1.out]
      have B1 := B1.kept hb
      have c1 := fun i => B1.cell i
      clear hb
      go_wp2_with fail
      go_ret
      exact ⟨by rw [Hr.out]; rfl, hB⟩
    | true =>
      have H1 := Lib.hid h1
      have H9 : Hid (∀ p ∈ ps, p.2.length ≤ 1000) := Lib.hid fun p hp => by
        have := List.all_eq_true.1 h1 p hp
        unfold fitB5 at this
        simp at this
        omega
      have hn3 : ¬ (64 < ps.length ∨ ps.all fitB5 = false) := by
        rw [h1]
        simp
        omega
      by_cases h0 : (ps.length : Int) = 0
      · have Hr := Lib.hid (show txtE ps = 2 by unfold txtE; rw [if_neg hn3, if_pos (.inl (by omega))])
        have h0' : ((ps.length : Int) == 0) = true := by rw [beq_iff_eq]; exact h0
        clear h1 hn3 h0
        go_enter Tryz.func69, Tryz.ntmps69
        have B1 := Box.new (w := w) (t := 81) (cs := #[.func (.func 94) #[] #[]]) rfl
        have c1 := fun i => B1.cell i
        go_wp2_with fail
        refine (every_fitt _ ps (iv 0) fitB5 _ (HR.out.kept (up_alloc up0 _)) (fun p hp w1 hb1 => fits_any p.1 p.2 w1 ((HT.out.2 p hp).kept (up_later (up_alloc up0 _) hb1)))).mono ?_
        rintro e w1 ⟨rfl, hb⟩
        have hB := up_later (up_alloc up0 _) hb
        rw [H1.out]
        have B1 := B1.kept hb
        have c1 := fun i => B1.cell i
        clear hb
        go_wp2_with fail
        go_ret
        exact ⟨by rw [Hr.out]; rfl, hB⟩
      · have h0' : ((ps.length : Int) == 0) = false := by rw [beq_eq_false_iff_ne]; exact h0
        cases h2 : ps.all spellB with
        | false =>
          have H2 := Lib.hid h2
          have Hr := Lib.hid (show txtE ps = 2 by unfold txtE; rw [if_neg hn3, if_pos (.inr h2)])
          clear h1 hn3 h2
          go_enter Tryz.func69, Tryz.ntmps69
          have B1 := Box.new (w := w) (t := 81) (cs := #[.func (.func 94) #[] #[]]) rfl
          have c1 := fun i => B1.cell i
          go_wp2_with fail
          refine (every_fitt _ ps (iv 0) fitB5 _ (HR.out.kept (up_alloc up0 _)) (fun p hp w1 hb1 => fits_any p.1 p.2 w1 ((HT.out.2 p hp).kept (up_later (up_alloc up0 _) hb1)))).mono ?_
          rintro e w1 ⟨rfl, hb⟩
          have hB := up_later (up_alloc up0 _) hb
          rw [H1.out]
          have B1 := B1.kept hb
          have c1 := fun i => B1.cell i
          clear hb
          go_wp2_with fail
          refine (every_spld _ ps (.pointer (some ⟨w.heap.size, 0, none⟩)) spellB _ (HR.out.kept hB) (fun p hp w2 hb2 => spelled_any p.1 p.2 w.heap.size w2 (((HT.out.2 p hp).kept (up_later hB hb2)).rows (H9.out p hp)) (B1.kept hb2))).mono ?_
          rintro e w2 ⟨rfl, hb⟩
          have hB2 := up_later hB hb
          rw [H2.out]
          clear hb
          go_wp2_with fail
          go_ret
          exact ⟨by rw [Hr.out]; rfl, hB2⟩
        | true =>
          have H2 := Lib.hid h2
          have hn2 : ¬ (ps.length = 0 ∨ ps.all spellB = false) := by
            rw [h2]
            simp only [Bool.true_eq_false, or_false]
            omega
          cases h3 : decB (ps.map (·.2)) 0 5 with
          | false =>
            have H3 := Lib.hid h3
            have Hr := Lib.hid (show txtE ps = 6 by unfold txtE; rw [if_neg hn3, if_neg hn2, if_pos h3])
            clear h1 hn3 h2 hn2 h3
            go_enter Tryz.func69, Tryz.ntmps69
            have B1 := Box.new (w := w) (t := 81) (cs := #[.func (.func 94) #[] #[]]) rfl
            have c1 := fun i => B1.cell i
            go_wp2_with fail
            refine (every_fitt _ ps (iv 0) fitB5 _ (HR.out.kept (up_alloc up0 _)) (fun p hp w1 hb1 => fits_any p.1 p.2 w1 ((HT.out.2 p hp).kept (up_later (up_alloc up0 _) hb1)))).mono ?_
            rintro e w1 ⟨rfl, hb⟩
            have hB := up_later (up_alloc up0 _) hb
            rw [H1.out]
            have B1 := B1.kept hb
            have c1 := fun i => B1.cell i
            clear hb
            go_wp2_with fail
            refine (every_spld _ ps (.pointer (some ⟨w.heap.size, 0, none⟩)) spellB _ (HR.out.kept hB) (fun p hp w2 hb2 => spelled_any p.1 p.2 w.heap.size w2 (((HT.out.2 p hp).kept (up_later hB hb2)).rows (H9.out p hp)) (B1.kept hb2))).mono ?_
            rintro e w2 ⟨rfl, hb⟩
            have hB2 := up_later hB hb
            rw [H2.out]
            clear hb
            go_wp2_with fail
            refine (decides_any _ (ps.map (·.2)) 0 5 _ ((HT.out.kept hB2).at_ (by omega) H9.out) (by omega)).mono ?_
            rintro e w3 ⟨rfl, hb⟩
            have hB3 := up_later hB2 hb
            rw [H3.out]
            clear hb
            go_wp2_with fail
            go_ret
            exact ⟨by rw [Hr.out]; rfl, hB3⟩
          | true =>
            have H3 := Lib.hid h3
            have Hr := Lib.hid (show txtE ps = 0 by unfold txtE; rw [if_neg hn3, if_neg hn2, if_neg (by rw [h3]; simp)])
            clear h1 hn3 h2 hn2 h3
            go_enter Tryz.func69, Tryz.ntmps69
            have B1 := Box.new (w := w) (t := 81) (cs := #[.func (.func 94) #[] #[]]) rfl
            have c1 := fun i => B1.cell i
            go_wp2_with fail
            refine (every_fitt _ ps (iv 0) fitB5 _ (HR.out.kept (up_alloc up0 _)) (fun p hp w1 hb1 => fits_any p.1 p.2 w1 ((HT.out.2 p hp).kept (up_later (up_alloc up0 _) hb1)))).mono ?_
            rintro e w1 ⟨rfl, hb⟩
            have hB := up_later (up_alloc up0 _) hb
            rw [H1.out]
            have B1 := B1.kept hb
            have c1 := fun i => B1.cell i
            clear hb
            go_wp2_with fail
            refine (every_spld _ ps (.pointer (some ⟨w.heap.size, 0, none⟩)) spellB _ (HR.out.kept hB) (fun p hp w2 hb2 => spelled_any p.1 p.2 w.heap.size w2 (((HT.out.2 p hp).kept (up_later hB hb2)).rows (H9.out p hp)) (B1.kept hb2))).mono ?_
            rintro e w2 ⟨rfl, hb⟩
            have hB2 := up_later hB hb
            rw [H2.out]
            clear hb
            go_wp2_with fail
            refine (decides_any _ (ps.map (·.2)) 0 5 _ ((HT.out.kept hB2).at_ (by omega) H9.out) (by omega)).mono ?_
            rintro e w3 ⟨rfl, hb⟩
            have hB3 := up_later hB2 hb
            rw [H3.out]
            clear hb
            go_wp2_with fail
            go_ret
            exact ⟨by rw [Hr.out]; rfl, hB3⟩
theorem txtE_ok {ps : List (Value × List Int)} (h : txtE ps = 0) : ps.length ≤ 64 ∧ (∀ p ∈ ps, p.2.length ≤ 5) ∧ decB (ps.map (·.2)) 0 5 = true := by
  unfold txtE at h
  split at h
  · cases h
  · rename_i h1
    split at h
    · cases h
    · split at h
      · cases h
      · rename_i h3
        simp only [not_or] at h1
        refine ⟨by omega, fun p hp => ?_, by simpa using h3⟩
        have h2 : ps.all fitB5 = true := by simpa using h1.2
        have := List.all_eq_true.1 h2 p hp
        unfold fitB5 at this
        simpa using this
set_option maxRecDepth 100000 in
set_option maxHeartbeats 1500000 in
theorem Repeat_any (v : Value) (ps : List (Value × List Int)) (w : World) (ht : TextsAny w v ps) : Calls Tryz.prog 40 #[v] w fun e w' => ∃ f m : Nat, e = .returned (.tuple #[iv f, iv m, iv (txtE ps)]) ∧ (txtE ps = 0 → IsShort (ps.map (·.2)) f m) ∧ (txtE ps ≠ 0 → f = 0 ∧ m = 0) ∧ Below w.heap.size w w' := by
  obtain ⟨A, cap, hv, -, -⟩ := ht.1.form
  subst hv
  have HT := Lib.hid ht
  clear ht
  obtain ⟨E, hE⟩ : ∃ E, txtE ps = E := ⟨_, rfl⟩
  have HE := Lib.hid hE
  by_cases c0 : E = 0
  · subst c0
    obtain ⟨q1, q2, q3⟩ := txtE_ok hE
    have HQ := Lib.hid q2
    clear hE
    go_enter Tryz.func40, Tryz.ntmps40
    go_wp2_with fail
    refine (checkTexts_any _ ps _ HT.out).mono ?_
    rintro e w1 ⟨rfl, hb⟩
    rw [HE.out]
    have HB := Lib.hid hb
    clear hb
    go_wp2_with fail
    refine (shortest_any _ (ps.map (·.2)) _ ((HT.out.kept HB.out).at_ (by omega) (fun p hp => by have := HQ.out p hp; omega)) q3).mono ?_
    rintro e w2 ⟨f, m, hs, rfl, hb⟩
    have HS := Lib.hid hs
    have hB2 := up_later HB.out hb
    clear hb hs
    go_wp2_with fail
    go_ret3
    exact ⟨f, m, by rw [HE.out]; rfl, fun _ => HS.out, fun h => absurd HE.out h, hB2⟩
  · have e1 : (E == 0) = false := by rw [beq_eq_false_iff_ne]; exact c0
    have e2 : (E != 0) = true := by rw [bne, e1]; rfl
    have HC := Lib.hid c0
    clear hE c0
    go_enter Tryz.func40, Tryz.ntmps40
    go_wp2_with fail
    refine (checkTexts_any _ ps _ HT.out).mono ?_
    rintro e w1 ⟨rfl, hb⟩
    rw [HE.out]
    go_wp2_with fail
    go_ret3
    exact ⟨0, 0, by rw [HE.out]; rfl, fun h => absurd (HE.out.symm.trans h) HC.out, fun _ => ⟨rfl, rfl⟩, hb⟩
end Go.Proofs.YtonekgefegfapaaGreat
