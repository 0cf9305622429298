/-
  WALK of Send. No condition.
-/
import Derived.Test.YtonekgefegfapaaGreatFu
namespace Go.Proofs.YtonekgefegfapaaGreat
open Go.RowKit

/-- The error of a code and a text. -/
def sendE (l : List ByteArray) (t : List Int) : Int := if codeE l ≠ 0 then codeE l else if 5 < t.length then 3 else if t.all (letB l.length) = false then 2 else 0
/-- The signs, or none. -/
def sendS (l : List ByteArray) (t : List Int) : By := if sendE l t = 0 then sgnI l t else []
theorem codeE_len {l : List ByteArray} (h : codeE l = 0) : l.length ≤ 6 ∧ codeB l = true := by
  unfold codeE at h
  split at h
  · cases h
  · split at h
    · cases h
    · rename_i h1 h2
      exact ⟨by omega, by simpa using h2⟩
theorem codeB_four {l : List ByteArray} (h : codeB l = true) : ∀ s ∈ l, s.size ≤ 4 := fun s hs => by
  unfold codeB at h
  simp only [Bool.and_eq_true] at h
  have := List.all_eq_true.1 h.2.1 s hs
  unfold fitB at this
  simp at this
  omega
set_option maxRecDepth 100000 in
set_option maxHeartbeats 1500000 in
theorem Send_any (v u : Value) (l : List ByteArray) (t : List Int) (w : World) (hl : RowsAny w v 1 sc l) (ht : RowsAny w u 1 ic t) :
    Calls Tryz.prog 22 #[.agg #[v], u] w fun e w' => e = .returned (.tuple #[.string ⟨(sendS l t).toArray⟩, iv (sendE l t)]) ∧ Below w.heap.size w w' := by
  obtain ⟨A, cap, hv, -, -⟩ := ht.form
  subst hv
  obtain ⟨A2, cap2, hv2, -, -⟩ := hl.form
  subst hv2
  have HL := Lib.hid hl
  obtain ⟨E, hE⟩ : ∃ E, codeE l = E := ⟨_, rfl⟩
  have HE := Lib.hid hE
  by_cases c0 : E = 0
  · subst c0
    obtain ⟨hl6, hcb⟩ := codeE_len hE
    have HR := Lib.hid (hl.rows (by omega))
    by_cases h5 : (5 : Int) < (t.length : Int)
    · have he : sendE l t = 3 := by unfold sendE; rw [if_neg (by rw [hE]; simp), if_pos (by omega)]
      have Hr := Lib.hid he
      have Hs := Lib.hid (show sendS l t = [] by unfold sendS; rw [he]; rfl)
      clear hl ht hE he
      go_enter Tryz.func22, Tryz.ntmps22
      have B1 := Box.new (w := w) (t := 30) (cs := #[.slice A2 l.length cap2]) rfl
      have c1 := fun i => B1.cell i
      go_wp2_with fail
      refine (CheckCode_any (.slice A2 l.length cap2) l _ (HL.out.kept (up_alloc up0 _))).mono ?_
      rintro e w1 ⟨rfl, hb⟩
      have hB := up_later (up_alloc up0 _) hb
      rw [HE.out]
      have B1 := B1.kept hb
      have c1 := fun i => B1.cell i
      clear hb
      go_wp2_with fail
      go_ret2
      exact ⟨by rw [Hr.out, Hs.out]; rfl, hB⟩
    · have HT := Lib.hid (ht.rows (by omega))
      cases ha : t.all (letB l.length) with
      | false =>
        have HA := Lib.hid ha
        have he : sendE l t = 2 := by unfold sendE; rw [if_neg (by rw [hE]; simp), if_neg (by omega), if_pos ha]
        have Hr := Lib.hid he
        have Hs := Lib.hid (show sendS l t = [] by unfold sendS; rw [he]; rfl)
        clear hl ht hE he ha
        go_enter Tryz.func22, Tryz.ntmps22
        have B1 := Box.new (w := w) (t := 30) (cs := #[.slice A2 l.length cap2]) rfl
        have c1 := fun i => B1.cell i
        go_wp2_with fail
        refine (CheckCode_any (.slice A2 l.length cap2) l _ (HL.out.kept (up_alloc up0 _))).mono ?_
        rintro e w1 ⟨rfl, hb⟩
        have hB := up_later (up_alloc up0 _) hb
        rw [HE.out]
        have B1 := B1.kept hb
        have c1 := fun i => B1.cell i
        clear hb
        go_wp2_with fail
        refine (every_letter (.slice A t.length cap) t (.agg #[.slice A2 l.length cap2]) (letB l.length) w1 (HT.out.kept hB) (fun x _ w2 hb2 => hasLetter_any (.slice A2 l.length cap2) l x w2 (HR.out.kept (up_later hB hb2)))).mono ?_
        rintro e w2 ⟨rfl, hb⟩
        have hB2 := up_later hB hb
        rw [HA.out]
        have B1 := B1.kept hb
        have c1 := fun i => B1.cell i
        clear hb
        go_wp2_with fail
        go_ret2
        exact ⟨by rw [Hr.out, Hs.out]; rfl, hB2⟩
      | true =>
        have HA := Lib.hid ha
        have he : sendE l t = 0 := by unfold sendE; rw [if_neg (by rw [hE]; simp), if_neg (by omega), if_neg (by rw [ha]; simp)]
        have Hr := Lib.hid he
        have Hs := Lib.hid (show sendS l t = sgnI l t by unfold sendS; rw [he]; rfl)
        have H4 := Lib.hid (codeB_four hcb)
        clear hl ht hE he ha hcb
        go_enter Tryz.func22, Tryz.ntmps22
        have B1 := Box.new (w := w) (t := 30) (cs := #[.slice A2 l.length cap2]) rfl
        have c1 := fun i => B1.cell i
        go_wp2_with fail
        refine (CheckCode_any (.slice A2 l.length cap2) l _ (HL.out.kept (up_alloc up0 _))).mono ?_
        rintro e w1 ⟨rfl, hb⟩
        have hB := up_later (up_alloc up0 _) hb
        rw [HE.out]
        have B1 := B1.kept hb
        have c1 := fun i => B1.cell i
        clear hb
        go_wp2_with fail
        refine (every_letter (.slice A t.length cap) t (.agg #[.slice A2 l.length cap2]) (letB l.length) w1 (HT.out.kept hB) (fun x _ w2 hb2 => hasLetter_any (.slice A2 l.length cap2) l x w2 (HR.out.kept (up_later hB hb2)))).mono ?_
        rintro e w2 ⟨rfl, hb⟩
        have hB2 := up_later hB hb
        rw [HA.out]
        have B1 := B1.kept hb
        have c1 := fun i => B1.cell i
        clear hb
        go_wp2_with fail
        refine (signs_any (.slice A2 l.length cap2) (.slice A t.length cap) l t w2 (HR.out.kept hB2) (HT.out.kept hB2) H4.out (List.all_eq_true.1 HA.out)).mono ?_
        rintro e w3 ⟨rfl, hb⟩
        have hB3 := up_later hB2 hb
        rw [← Hs.out]
        clear hb
        go_wp2_with fail
        go_ret2
        exact ⟨by rw [Hr.out]; rfl, hB3⟩
  · have he : sendE l t = E := by unfold sendE; rw [if_pos (by rw [hE]; exact c0), hE]
    have Hr := Lib.hid he
    have Hs := Lib.hid (show sendS l t = [] by unfold sendS; rw [if_neg (by rw [he]; exact c0)])
    have e1 : (E == 0) = false := by rw [beq_eq_false_iff_ne]; exact c0
    have e2 : (E != 0) = true := by rw [bne, e1]; rfl
    clear hl ht hE he c0
    go_enter Tryz.func22, Tryz.ntmps22
    have B1 := Box.new (w := w) (t := 30) (cs := #[.slice A2 l.length cap2]) rfl
    have c1 := fun i => B1.cell i
    go_wp2_with fail
    refine (CheckCode_any (.slice A2 l.length cap2) l _ (HL.out.kept (up_alloc up0 _))).mono ?_
    rintro e w1 ⟨rfl, hb⟩
    have hB := up_later (up_alloc up0 _) hb
    rw [HE.out]
    have B1 := B1.kept hb
    have c1 := fun i => B1.cell i
    clear hb
    go_wp2_with fail
    go_ret2
    exact ⟨by rw [Hr.out, Hs.out]; rfl, hB⟩
end Go.Proofs.YtonekgefegfapaaGreat
