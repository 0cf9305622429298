/-
  WALKS of explain and Errors. No condition.
-/
import Derived.Test.YtonekgefegfapaaGreatFi
import Derived.Test.YtonekgefegfapaaGreatFj
namespace Go.Proofs.YtonekgefegfapaaGreat
open Go.RowKit

theorem rows_two {w : World} {g : Nat} {s r : ByteArray} (h : Box w g 9 #[sv s, sv r]) : RowsAt w (.slice (some ⟨g, 0, none⟩) 2 2) 1 sc [s, r] :=
  ⟨by simp, _, _, rfl, by simp, by decide, fun _ => ⟨g, 0, rfl, h.lt, fun i y hy j u hu => by
    rw [h.cell]
    rcases i with _ | _ | i
    · obtain rfl : y = s := by simpa using hy.symm
      rcases j with _ | j
      · obtain rfl : u = sv y := by simpa [sc] using hu.symm
        rfl
      · simp [sc] at hu
    · obtain rfl : y = r := by simpa using hy.symm
      rcases j with _ | j
      · obtain rfl : u = sv y := by simpa [sc] using hu.symm
        rfl
      · simp [sc] at hu
    · simp at hy⟩⟩
theorem below_grown {w W w' : World} {B gm : Nat} (hb : Below B w W) (hg : W.grownBy w' (some gm)) (hz : B ≤ gm) (hB : B ≤ w.heap.size) : Below B w w' :=
  ⟨hg.os.trans hb.os, hg.tape.trans hb.tape, hg.output.trans hb.output, Nat.le_trans hb.size hg.size, fun i hi => (hg.block i (Nat.lt_of_lt_of_le hi (Nat.le_trans hB hb.size)) (fun e => by have := Option.some.inj e; omega)).trans (hb.block i hi)⟩
/-- The error of a search, and what it is. -/
def searchE (s r : ByteArray) : Int := if signsE [s, r] ≠ 0 then signsE [s, r] else if fewI s.data.toList r.data.toList (0, 0) = 120 then 11 else 0
set_option maxRecDepth 100000 in
set_option maxHeartbeats 1500000 in
theorem explain_any (s r : ByteArray) (w : World) : Calls Tryz.prog 57 #[.string s, .string r] w fun e w' => (searchE s r ≠ 0 → e = .returned (.tuple #[.pointer none, iv (searchE s r)])) ∧
    (searchE s r = 0 → s.size ≤ 40 ∧ r.size ≤ 40 ∧ ∃ gs gl gm m, e = .returned (.tuple #[.pointer (some ⟨gs, 0, none⟩), iv 0]) ∧ SrAt w' gs gl gm s r m ∧ Good s.data.toList r.data.toList 0 m ∧ w.heap.size ≤ gm) ∧ Below w.heap.size w w' := by
  by_cases c1 : signsE [s, r] = 0
  case neg =>
    obtain ⟨E, hE⟩ : ∃ E, signsE [s, r] = E := ⟨_, rfl⟩
    have HE := Lib.hid hE
    have Hr := Lib.hid (show searchE s r = E by unfold searchE; rw [if_pos c1, hE])
    rw [hE] at c1
    have e1 : (E == 0) = false := by rw [beq_eq_false_iff_ne]; exact c1
    have e2 : (E != 0) = true := by rw [bne, e1]; rfl
    rw [Hr.out]
    clear hE
    go_enter Tryz.func57, Tryz.ntmps57
    go_wp2_with fail
    refine (checkSigns_any _ [s, r] _ (rows_two (Box.new rfl))).mono ?_
    rintro e w1 ⟨rfl, hb⟩
    rw [HE.out]
    have hB := up_later (up_alloc up0 _) hb
    clear hb
    go_wp2_with fail
    go_ret2
    exact ⟨fun _ => rfl, fun h => absurd h c1, hB⟩
  have HE := Lib.hid c1
  have h40 : s.size ≤ 40 ∧ r.size ≤ 40 := by
    have h := c1
    unfold signsE at h
    split at h
    · cases h
    · rename_i h1
      have h2 : [s, r].all (fun s => decide (s.size ≤ 40)) = true := by
        cases hq : [s, r].all (fun s => decide (s.size ≤ 40)) with
        | true => rfl
        | false => exact absurd hq h1
      simpa using h2
  have HC := Lib.hid c1
  clear c1
  go_enter Tryz.func57, Tryz.ntmps57
  go_wp2_with fail
  refine (checkSigns_any _ [s, r] _ (rows_two (Box.new rfl))).mono ?_
  rintro e w1 ⟨rfl, hb⟩
  rw [HE.out]
  have hB := up_later (up_alloc up0 _) hb
  clear hb
  go_wp2_with fail
  refine (newLines_any s r w1).mono ?_
  rintro e w2 ⟨gl, rfl, bl, lo, hb⟩
  have hB2 := up_later hB hb
  have hmm := @run_makeMap Tryz.prog
  clear hB hb
  go_wp2_with fail
  obtain ⟨W, hW⟩ : ∃ W, (w2.alloc (.map #[] 0)).alloc (.cells #[.pointer (some ⟨gl, 0, none⟩), .map (some w2.heap.size)] 124) = W := ⟨_, rfl⟩
  have hS : SrAt W (w2.heap.size + 1) gl w2.heap.size s r [] := by
    rw [← hW]
    exact ⟨Box.new (by simp), (bl.alloc _).alloc _, (MapAt.new rfl).kept (up_alloc up0 _)⟩
  have hB3 : Below w.heap.size w W := by
    rw [← hW]
    exact up_alloc (up_alloc hB2 _) _
  have hz := hB2.size
  have hzW : w2.heap.size ≤ W.heap.size := by rw [← hW]; simp; omega
  obtain ⟨gm, hgm⟩ : ∃ gm, w2.heap.size = gm := ⟨_, rfl⟩
  rw [hW]
  rw [hgm] at hS hz hzW ⊢
  clear hW hmm bl lo hB2 hgm
  refine (fewest_any (gm + 1) gl gm 0 0 s r [] W h40.1 h40.2 (Nat.zero_le _) (Nat.zero_le _) hS (by simp [Good])).mono ?_
  rintro e w3 ⟨v, rfl, rfl, ex, hex, hm, hg⟩
  have HB4 := Lib.hid (below_grown hB3 hg hz (Nat.le_refl _))
  have HS := Lib.hid (hS.grown hg hm)
  have HX := Lib.hid hex
  clear hex hm hg hB3 hS
  by_cases hF : fewI s.data.toList r.data.toList (0, 0) = 120
  · have Hr := Lib.hid (show searchE s r = 11 by unfold searchE; rw [if_neg (by simpa using HC.out), if_pos hF])
    rw [hF]
    clear hF
    go_wp2_with fail
    go_ret2
    refine ⟨?_, ?_, HB4.out⟩
    · intro _; rw [Hr.out]; rfl
    · intro h; rw [Hr.out] at h; cases h
  · have Hr := Lib.hid (show searchE s r = 0 by unfold searchE; rw [if_neg (by simpa using HC.out), if_neg hF])
    have hF' : ((fewI s.data.toList r.data.toList (0, 0) : Nat) : Int) ≠ 120 := fun h => hF (by omega)
    obtain ⟨V, hV⟩ : ∃ V : Int, ((fewI s.data.toList r.data.toList (0, 0) : Nat) : Int) = V := ⟨_, rfl⟩
    rw [hV] at hF' ⊢
    have e1 : (V == 120) = false := by rw [beq_eq_false_iff_ne]; exact hF'
    clear hF hV hF'
    go_wp2_with fail
    go_ret2
    refine ⟨?_, ?_, HB4.out⟩
    · intro h; exact absurd Hr.out h
    · intro _; exact ⟨h40.1, h40.2, _, _, _, _, rfl, HS.out, HX.out, hz⟩
/-- The fewest errors, or 0. -/
def errorsN (s r : ByteArray) : Nat := if searchE s r = 0 then fewI s.data.toList r.data.toList (0, 0) else 0
set_option maxRecDepth 100000 in
set_option maxHeartbeats 1500000 in
theorem Errors_any (s r : ByteArray) (w : World) : Calls Tryz.prog 27 #[.string s, .string r] w fun e w' => e = .returned (.tuple #[iv (errorsN s r), iv (searchE s r)]) ∧ Below w.heap.size w w' := by
  obtain ⟨E, hE⟩ : ∃ E, searchE s r = E := ⟨_, rfl⟩
  by_cases c1 : E = 0
  · subst c1
    have HE := Lib.hid hE
    have Hr := Lib.hid (show fewI s.data.toList r.data.toList (0, 0) = errorsN s r by unfold errorsN; rw [if_pos hE])
    rw [hE]
    clear hE
    go_enter Tryz.func27, Tryz.ntmps27
    go_wp2_with fail
    refine (explain_any s r _).mono ?_
    rintro e w1 ⟨-, h1, hb⟩
    obtain ⟨h40, h41, gs, gl, gm, m, rfl, hS, hG, hz⟩ := h1 HE.out
    have HB := Lib.hid hb
    have HS := Lib.hid hS
    have HG := Lib.hid hG
    clear h1 hb hS hG
    go_wp2_with fail
    refine (fewest_any gs gl gm 0 0 s r m w1 h40 h41 (Nat.zero_le _) (Nat.zero_le _) HS.out HG.out).mono ?_
    rintro e w2 ⟨v, rfl, rfl, ex, -, -, hg⟩
    have HB2 := Lib.hid (below_grown HB.out hg hz (Nat.le_refl _))
    rw [Hr.out]
    clear hg
    go_wp2_with fail
    go_ret2
    exact ⟨rfl, HB2.out⟩
  · have HE := Lib.hid hE
    have Hr := Lib.hid (show errorsN s r = 0 by unfold errorsN; rw [if_neg (by rw [hE]; exact c1)])
    have e1 : (E == 0) = false := by rw [beq_eq_false_iff_ne]; exact c1
    have e2 : (E != 0) = true := by rw [bne, e1]; rfl
    rw [hE]
    clear hE c1
    go_enter Tryz.func27, Tryz.ntmps27
    go_wp2_with fail
    refine (explain_any s r _).mono ?_
    rintro e w1 ⟨h1, -, hb⟩
    obtain rfl := h1 (by rw [HE.out]; intro h; rw [h] at e1; cases e1)
    rw [HE.out]
    clear h1
    go_wp2_with fail
    go_ret2
    exact ⟨by rw [Hr.out]; rfl, hb⟩
end Go.Proofs.YtonekgefegfapaaGreat
