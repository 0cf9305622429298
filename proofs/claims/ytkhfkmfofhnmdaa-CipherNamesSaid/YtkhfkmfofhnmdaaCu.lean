/-
  PLAIN: the best plan; WALKS of '(eve).with', '(eve).changesTo', '(desk).isFree'. Conditions: the numbers are small.
-/
import Derived.Test.YtkhfkmfofhnmdaaCt
namespace Go.Proofs.Ytkhfkmfofhnmdaa
open Go.RowKit

/-- On how many days the key k is used. -/
def Eve.used (x : Eve) : Nat → Int
  | 0 => x.a
  | 1 => x.b
  | 2 => x.c
  | 3 => x.d
  | _ => x.e
/-- The next day, if the key k is used on this one. -/
def Eve.next (x : Eve) : Nat → Eve
  | 0 => ⟨x.day + 1, 0, x.a + 1, x.b, x.c, x.d, x.e⟩
  | 1 => ⟨x.day + 1, 1, x.a, x.b + 1, x.c, x.d, x.e⟩
  | 2 => ⟨x.day + 1, 2, x.a, x.b, x.c + 1, x.d, x.e⟩
  | 3 => ⟨x.day + 1, 3, x.a, x.b, x.c, x.d + 1, x.e⟩
  | n + 4 => ⟨x.day + 1, n + 4, x.a, x.b, x.c, x.d, x.e + 1⟩
/-- 1 if the key is another one than on the day before. -/
def changeI (x : Eve) (k : Int) : Int := if x.last = -1 ∨ x.last = k then 0 else 1
/-- Of r days left over at x: the plan p, or a better one that uses the key k first. -/
def stepP (most : Int) (free : Int → Int → Bool) (rest : Eve → List Int × Int) (x : Eve) (p : List Int × Int) (k : Nat) : List Int × Int :=
  if free k x.day && x.used k != most then (if changeI x k + (rest (x.next k)).2 < p.2 then ((k : Int) :: (rest (x.next k)).1, changeI x k + (rest (x.next k)).2) else p) else p
/-- The best plan for the last r days, the keys being m. -/
def bestF (m : Nat) (most : Int) (free : Int → Int → Bool) : Nat → Eve → List Int × Int
  | 0, _ => ([], 0)
  | r + 1, x => (List.range m).foldl (stepP most free (bestF m most free r) x) ([], 8)
/-- The same, of the first k keys. -/
def bestK (m : Nat) (most : Int) (free : Int → Int → Bool) (r : Nat) (x : Eve) (k : Nat) : List Int × Int := (List.range k).foldl (stepP most free (bestF m most free r) x) ([], 8)
theorem bestK_zero {m : Nat} {most : Int} {free : Int → Int → Bool} {r : Nat} {x : Eve} : bestK m most free r x 0 = ([], 8) := rfl
theorem bestK_all {m : Nat} {most : Int} {free : Int → Int → Bool} {r : Nat} {x : Eve} : bestK m most free r x m = bestF m most free (r + 1) x := rfl
theorem bestK_succ {m : Nat} {most : Int} {free : Int → Int → Bool} {r : Nat} {x : Eve} {k : Nat} : bestK m most free r x (k + 1) = stepP most free (bestF m most free r) x (bestK m most free r x k) k := by
  unfold bestK
  rw [List.range_succ, List.foldl_append]
  rfl
theorem changeI_in (x : Eve) (k : Int) : 0 ≤ changeI x k ∧ changeI x k ≤ 1 := by unfold changeI; split <;> omega
theorem fold_in {most : Int} {free : Int → Int → Bool} {rest : Eve → List Int × Int} {x : Eve} {r : Nat} (h : ∀ y, 0 ≤ (rest y).2 ∧ (rest y).1.length ≤ r) : ∀ (l : List Nat) (p : List Int × Int), 0 ≤ p.2 ∧ p.2 ≤ 8 ∧ p.1.length ≤ r + 1 →
    0 ≤ (l.foldl (stepP most free rest x) p).2 ∧ (l.foldl (stepP most free rest x) p).2 ≤ 8 ∧ (l.foldl (stepP most free rest x) p).1.length ≤ r + 1
  | [], p, hp => hp
  | k :: l, p, hp => by
    refine fold_in h l _ ?_
    have hc := changeI_in x k
    have hr := h (x.next k)
    unfold stepP
    split
    · split
      · simp only [List.length_cons]
        omega
      · exact hp
    · exact hp
theorem bestF_in (m : Nat) (most : Int) (free : Int → Int → Bool) : ∀ (r : Nat) (x : Eve), 0 ≤ (bestF m most free r x).2 ∧ (bestF m most free r x).2 ≤ 8 ∧ (bestF m most free r x).1.length ≤ r
  | 0, _ => by simp [bestF]
  | r + 1, x => fold_in (fun y => ⟨(bestF_in m most free r y).1, (bestF_in m most free r y).2.2⟩) (List.range m) ([], 8) (by simp)
theorem bestK_in (m : Nat) (most : Int) (free : Int → Int → Bool) (r : Nat) (x : Eve) (k : Nat) : 0 ≤ (bestK m most free r x k).2 ∧ (bestK m most free r x k).2 ≤ 8 ∧ (bestK m most free r x k).1.length ≤ r + 1 :=
  fold_in (fun y => ⟨(bestF_in m most free r y).1, (bestF_in m most free r y).2.2⟩) (List.range k) ([], 8) (by simp)

/-- A day of a plan: r days are left over of n. -/
structure EvOK (n r : Nat) (x : Eve) : Prop where
  d0 : 0 ≤ x.day
  dr : x.day + r = n
  n8 : n ≤ 8
  a : 0 ≤ x.a ∧ x.a ≤ x.day
  b : 0 ≤ x.b ∧ x.b ≤ x.day
  c : 0 ≤ x.c ∧ x.c ≤ x.day
  d : 0 ≤ x.d ∧ x.d ≤ x.day
  e : 0 ≤ x.e ∧ x.e ≤ x.day
theorem EvOK.next {n r : Nat} {x : Eve} (h : EvOK n (r + 1) x) (k : Nat) : EvOK n r (x.next k) := by
  obtain ⟨h0, h1, h2, h3, h4, h5, h6, h7⟩ := h
  rcases k with _ | _ | _ | _ | k <;> refine ⟨?_, ?_, h2, ?_, ?_, ?_, ?_, ?_⟩ <;> simp only [Eve.next] <;> omega

set_option maxRecDepth 100000 in
set_option maxHeartbeats 1500000 in
theorem with_any (n r : Nat) (x : Eve) (k : Nat) (w : World) (hx : EvOK n (r + 1) x) (hk : k < 5) :
    Calls Try.prog 103 #[x.val, iv k] w fun e w' => e = .returned (x.next k).val ∧ Below w.heap.size w w' := by
  obtain ⟨d0, dr, n8, ha, hb, hc, hd, he⟩ := hx
  obtain ⟨xd, xl, xa, xb, xc, xdd, xe⟩ := x
  simp only at d0 dr n8 ha hb hc hd he
  obtain ⟨ha0, ha1⟩ := ha
  obtain ⟨hb0, hb1⟩ := hb
  obtain ⟨hc0, hc1⟩ := hc
  obtain ⟨hd0, hd1⟩ := hd
  obtain ⟨he0, he1⟩ := he
  have hkk : k = 0 ∨ k = 1 ∨ k = 2 ∨ k = 3 ∨ k = 4 := by omega
  unfold Eve.val Eve.cells
  simp only
  rcases hkk with rfl | rfl | rfl | rfl | rfl
  · go_enter Try.func103, Try.ntmps103
    go_wp2_with fail
    have N := Box.new (w := w.alloc (.cells #[iv xd, iv xl, iv (xa + 1), iv xb, iv xc, iv xdd, iv xe] 147)) (g := w.heap.size + 1) (t := 147) (cs := #[iv (xd + 1), iv 0, iv (xa + 1), iv xb, iv xc, iv xdd, iv xe]) (by simp)
    have cN := fun i => N.cell i
    refine bodyPost_ret (v := .agg #[iv (xd + 1), iv 0, iv (xa + 1), iv xb, iv xc, iv xdd, iv xe]) (by simp [results, Try.results103, go_sem, cN]) rfl ⟨rfl, up_alloc (up_alloc up0 _) _⟩
  · go_enter Try.func103, Try.ntmps103
    go_wp2_with fail
    have N := Box.new (w := w.alloc (.cells #[iv xd, iv xl, iv xa, iv (xb + 1), iv xc, iv xdd, iv xe] 147)) (g := w.heap.size + 1) (t := 147) (cs := #[iv (xd + 1), iv 1, iv xa, iv (xb + 1), iv xc, iv xdd, iv xe]) (by simp)
    have cN := fun i => N.cell i
    refine bodyPost_ret (v := .agg #[iv (xd + 1), iv 1, iv xa, iv (xb + 1), iv xc, iv xdd, iv xe]) (by simp [results, Try.results103, go_sem, cN]) rfl ⟨rfl, up_alloc (up_alloc up0 _) _⟩
  · go_enter Try.func103, Try.ntmps103
    go_wp2_with fail
    have N := Box.new (w := w.alloc (.cells #[iv xd, iv xl, iv xa, iv xb, iv (xc + 1), iv xdd, iv xe] 147)) (g := w.heap.size + 1) (t := 147) (cs := #[iv (xd + 1), iv 2, iv xa, iv xb, iv (xc + 1), iv xdd, iv xe]) (by simp)
    have cN := fun i => N.cell i
    refine bodyPost_ret (v := .agg #[iv (xd + 1), iv 2, iv xa, iv xb, iv (xc + 1), iv xdd, iv xe]) (by simp [results, Try.results103, go_sem, cN]) rfl ⟨rfl, up_alloc (up_alloc up0 _) _⟩
  · go_enter Try.func103, Try.ntmps103
    go_wp2_with fail
    have N := Box.new (w := w.alloc (.cells #[iv xd, iv xl, iv xa, iv xb, iv xc, iv (xdd + 1), iv xe] 147)) (g := w.heap.size + 1) (t := 147) (cs := #[iv (xd + 1), iv 3, iv xa, iv xb, iv xc, iv (xdd + 1), iv xe]) (by simp)
    have cN := fun i => N.cell i
    refine bodyPost_ret (v := .agg #[iv (xd + 1), iv 3, iv xa, iv xb, iv xc, iv (xdd + 1), iv xe]) (by simp [results, Try.results103, go_sem, cN]) rfl ⟨rfl, up_alloc (up_alloc up0 _) _⟩
  · go_enter Try.func103, Try.ntmps103
    go_wp2_with fail
    have N := Box.new (w := w.alloc (.cells #[iv xd, iv xl, iv xa, iv xb, iv xc, iv xdd, iv (xe + 1)] 147)) (g := w.heap.size + 1) (t := 147) (cs := #[iv (xd + 1), iv 4, iv xa, iv xb, iv xc, iv xdd, iv (xe + 1)]) (by simp)
    have cN := fun i => N.cell i
    refine bodyPost_ret (v := .agg #[iv (xd + 1), iv 4, iv xa, iv xb, iv xc, iv xdd, iv (xe + 1)]) (by simp [results, Try.results103, go_sem, cN]) rfl ⟨rfl, up_alloc (up_alloc up0 _) _⟩

set_option maxHeartbeats 400000 in
theorem changesTo_any (x : Eve) (k : Int) (w : World) :
    Calls Try.prog 104 #[x.val, iv k] w fun e w' => e = .returned (.int .i64 (changeI x k)) ∧ Below w.heap.size w w' := by
  unfold Eve.val Eve.cells
  by_cases h1 : x.last = -1
  · have h1' : (x.last == -1) = true := by simpa using h1
    have Hf := Lib.hid (show changeI x k = 0 by unfold changeI; rw [if_pos (.inl h1)])
    clear h1
    go_enter Try.func104, Try.ntmps104
    go_wp2_with fail
    go_ret
    exact ⟨ret_int Hf.out.symm, up_alloc up0 _⟩
  · have h1' : (x.last == -1) = false := by rw [beq_eq_false_iff_ne]; exact h1
    by_cases h2 : x.last = k
    · have h2' : (x.last == k) = true := by simpa using h2
      have Hf := Lib.hid (show changeI x k = 0 by unfold changeI; rw [if_pos (.inr h2)])
      clear h1 h2
      go_enter Try.func104, Try.ntmps104
      go_wp2_with fail
      go_ret
      exact ⟨ret_int Hf.out.symm, up_alloc up0 _⟩
    · have h2' : (x.last == k) = false := by rw [beq_eq_false_iff_ne]; exact h2
      have Hf := Lib.hid (show changeI x k = 1 by unfold changeI; rw [if_neg (by simp [h1, h2])])
      clear h1 h2
      go_enter Try.func104, Try.ntmps104
      go_wp2_with fail
      go_ret
      exact ⟨ret_int Hf.out.symm, up_alloc up0 _⟩

set_option maxHeartbeats 400000 in
theorem isFree_any (n ws : Int) (v1 : Value) (A2 : Option Addr) (n2 c2 : Nat) (v3 : Value) (ls : List Ls) (key day : Int) (w : World) (hl : RowsAt w v3 2 Ls.cells ls) :
    Calls Try.prog 102 #[.agg #[iv n, iv ws, v1, .slice A2 n2 c2, v3], iv key, iv day] w fun e w' => e = .returned (.bool (decide (day < takenI n2 ls key))) ∧ Below w.heap.size w w' := by
  obtain ⟨hlen, A3, c3, rfl, hcap, _⟩ := hl.form
  have HV := Lib.hid hl
  clear hl
  go_enter Try.func102, Try.ntmps102
  go_wp2_with fail
  refine (taken_any _ _ _ _ n2 _ _ ls key _ (HV.out.kept (up_alloc up0 _))).mono ?_
  rintro e w1 ⟨rfl, hb⟩
  go_wp2_with fail
  go_ret
  exact ⟨rfl, up_later (up_alloc up0 _) hb⟩

end Go.Proofs.Ytkhfkmfofhnmdaa
