/-
  FlashNames holds: the lift.
-/
import Derived.Test.YtonekgefegfapaaGreatQc
import Derived.Test.YtonekgefegfapaaGreatGl
import Derived.Laws.IdiomStrings
import Derived.Test.YtonekgefegfapaaGreatGr
namespace Go.Proofs.YtonekgefegfapaaGreat
open Go.RowKit

/-- The n-th text of k letters. -/
def dgs (m : Nat) : Nat → Nat → List Int
  | 0, _ => []
  | k + 1, n => ((n / m ^ k % m : Nat) : Int) :: dgs m k n
theorem dgs_len (m : Nat) : ∀ k n, (dgs m k n).length = k
  | 0, _ => rfl
  | k + 1, n => by unfold dgs; rw [List.length_cons, dgs_len m k n]
theorem letB_at {n : Nat} {x : Int} : letB n x = true ↔ 0 ≤ x ∧ x < (n : Int) := by
  unfold letB
  simp
theorem dgs_let {m : Nat} (hm : 0 < m) : ∀ k n, ∀ x ∈ dgs m k n, letB m x = true
  | 0, _, x, h => by cases h
  | k + 1, n, x, h => by
    unfold dgs at h
    rcases List.mem_cons.1 h with rfl | h
    · rw [letB_at]
      have := Nat.mod_lt (n / m ^ k) hm
      omega
    · exact dgs_let hm k n x h
theorem dgs_mod {m : Nat} (hm : 0 < m) : ∀ (k a n : Nat), dgs m k (a * m ^ k + n) = dgs m k n
  | 0, _, _ => rfl
  | k + 1, a, n => by
    have hp : 0 < m ^ k := Nat.pow_pos hm
    have e : a * m ^ (k + 1) + n = (a * m) * m ^ k + n := by rw [Nat.pow_succ, Nat.mul_comm (m ^ k) m, Nat.mul_assoc]
    unfold dgs
    rw [e, dgs_mod hm k (a * m) n, Nat.mul_comm (a * m) (m ^ k), Nat.mul_add_div hp, Nat.mul_comm a m, Nat.mul_add_mod]
theorem dgs_surj {m : Nat} (hm : 0 < m) : ∀ t : List Int, (∀ x ∈ t, letB m x = true) → ∃ n, n < m ^ t.length ∧ dgs m t.length n = t
  | [], _ => ⟨0, by simp, rfl⟩
  | x :: t, h => by
    obtain ⟨n, h1, h2⟩ := dgs_surj hm t fun y hy => h y (List.mem_cons_of_mem _ hy)
    have hx := letB_at.1 (h x (List.mem_cons_self ..))
    have hp : 0 < m ^ t.length := Nat.pow_pos hm
    refine ⟨x.toNat * m ^ t.length + n, ?_, ?_⟩
    · rw [List.length_cons, Nat.pow_succ]
      have : (x.toNat + 1) * m ^ t.length ≤ m * m ^ t.length := Nat.mul_le_mul_right _ (by omega)
      rw [Nat.add_mul, Nat.one_mul] at this
      rw [Nat.mul_comm (m ^ t.length) m]
      omega
    · rw [List.length_cons]
      unfold dgs
      rw [dgs_mod hm, h2, Nat.mul_comm, Nat.mul_add_div hp, Nat.div_eq_of_lt h1, Nat.add_zero, Nat.mod_eq_of_lt (by omega)]
      congr 1
      omega
theorem dgs_lt {m : Nat} (hm : 0 < m) : ∀ (k i j : Nat), i < j → j < m ^ k → ltL (dgs m k i) (dgs m k j)
  | 0, i, j, h, h2 => by simp at h2; omega
  | k + 1, i, j, h, h2 => by
    have hp : 0 < m ^ k := Nat.pow_pos hm
    have hjm : j / m ^ k < m := by
      rw [Nat.div_lt_iff_lt_mul hp, Nat.mul_comm, ← Nat.pow_succ]
      exact h2
    have hij : i / m ^ k ≤ j / m ^ k := Nat.div_le_div_right (by omega)
    unfold dgs ltL
    rw [Nat.mod_eq_of_lt hjm, Nat.mod_eq_of_lt (by omega)]
    by_cases he : i / m ^ k = j / m ^ k
    · refine .inr ⟨by rw [he], ?_⟩
      have ei := Nat.div_add_mod i (m ^ k)
      have ej := Nat.div_add_mod j (m ^ k)
      rw [Nat.mul_comm] at ei ej
      rw [← ei, ← ej, dgs_mod hm, dgs_mod hm]
      have hl := Nat.mod_lt j hp
      refine dgs_lt hm k _ _ ?_ hl
      rw [he] at ei
      omega
    · exact .inl (by omega)
def okB (l : List ByteArray) (R : By) (E : Nat) (t : List Int) : Bool := decide (fewI (sgnI l t) R (0, 0) ≤ E)
def rowT (l : List ByteArray) (R : By) (E L n : Nat) : List (List Int) := ((List.range n).map (dgs l.length L)).filter (okB l R E)
def outT (l : List ByteArray) (R : By) (E k : Nat) : List (List Int) := (List.range k).flatMap fun L => rowT l R E L (l.length ^ L)
theorem rowT_zero (l : List ByteArray) (R : By) (E L : Nat) : rowT l R E L 0 = [] := rfl
theorem rowT_succ (l : List ByteArray) (R : By) (E L n : Nat) : rowT l R E L (n + 1) = rowT l R E L n ++ if okB l R E (dgs l.length L n) then [dgs l.length L n] else [] := by
  unfold rowT
  rw [List.range_succ, List.map_append, List.filter_append, List.map_singleton, List.filter_cons, List.filter_nil]
theorem outT_succ (l : List ByteArray) (R : By) (E k : Nat) : outT l R E (k + 1) = outT l R E k ++ rowT l R E k (l.length ^ k) := by
  unfold outT
  rw [List.range_succ, List.flatMap_append]
  simp
theorem rowT_mem {l : List ByteArray} {R : By} {E L n : Nat} {t : List Int} : t ∈ rowT l R E L n ↔ (∃ i, i < n ∧ dgs l.length L i = t) ∧ fewI (sgnI l t) R (0, 0) ≤ E := by
  unfold rowT okB
  rw [List.mem_filter, List.mem_map, decide_eq_true_eq]
  simp only [List.mem_range]
theorem outT_mem {l : List ByteArray} {R : By} {E K : Nat} (hl : 0 < l.length) {t : List Int} : t ∈ outT l R E (K + 1) ↔ t.length ≤ K ∧ (∀ y ∈ t, letB l.length y = true) ∧ fewI (sgnI l t) R (0, 0) ≤ E := by
  unfold outT
  rw [List.mem_flatMap]
  constructor
  · rintro ⟨L, hL, h⟩
    obtain ⟨⟨i, hi, rfl⟩, h2⟩ := rowT_mem.1 h
    exact ⟨by rw [dgs_len]; have := List.mem_range.1 hL; omega, dgs_let hl _ _, h2⟩
  · rintro ⟨h1, h2, h3⟩
    obtain ⟨n, hn, e⟩ := dgs_surj hl t h2
    exact ⟨t.length, List.mem_range.2 (by omega), rowT_mem.2 ⟨⟨n, hn, e⟩, h3⟩⟩
theorem outT_len {l : List ByteArray} {R : By} {E k : Nat} {t : List Int} (h : t ∈ outT l R E k) : t.length < k := by
  unfold outT at h
  obtain ⟨L, hL, h⟩ := List.mem_flatMap.1 h
  obtain ⟨⟨i, hi, rfl⟩, h2⟩ := rowT_mem.1 h
  rw [dgs_len]
  exact List.mem_range.1 hL
theorem outT_sorted {l : List ByteArray} {R : By} {E : Nat} (hl : 0 < l.length) : ∀ k, (outT l R E k).Pairwise ltT
  | 0 => List.Pairwise.nil
  | k + 1 => by
    rw [outT_succ, List.pairwise_append]
    refine ⟨outT_sorted hl k, ?_, fun a ha b hb => ?_⟩
    · unfold rowT
      refine List.Pairwise.filter _ ?_
      rw [List.pairwise_map]
      refine (List.pairwise_lt_range (n := l.length ^ k)).imp_of_mem fun {a b} _ hb h => ?_
      exact .inr ⟨by rw [dgs_len, dgs_len], dgs_lt hl _ _ _ h (List.mem_range.1 hb)⟩
    · obtain ⟨⟨i, hi, rfl⟩, h2⟩ := rowT_mem.1 hb
      exact .inl (by rw [dgs_len]; exact outT_len ha)
/-- **The texts are those that the reference finds.** -/
theorem outT_is {l : List ByteArray} {R : By} {E K : Nat} {ts : List (List Int)} (hl : 0 < l.length) (hR : R.length ≤ 40) (hE : E < 120) (h : IsTexts l R E K ts) : ts = outT l R E (K + 1) := by
  have hs := outT_sorted (l := l) (R := R) (E := E) hl (K + 1)
  refine sorted_unique _ _ ((List.perm_ext_iff_of_nodup (texts_nodup h) ?_).2 fun t => ?_) h.2 (hs.imp fun h1 h2 => ltT_irrefl _ (ltT_trans h1 h2))
  · rw [List.nodup_iff_pairwise_ne]
    exact hs.imp fun h1 e => by subst e; exact ltT_irrefl _ h1
  · rw [texts_iff hR hE h, outT_mem hl]
theorem rowT_size (l : List ByteArray) (R : By) (E L n : Nat) : (rowT l R E L n).length ≤ n := by
  unfold rowT
  refine Nat.le_trans (List.length_filter_le _ _) ?_
  rw [List.length_map, List.length_range]
  exact Nat.le_refl _
theorem outT_size {l : List ByteArray} {R : By} {E : Nat} (hl : l.length ≤ 3) : ∀ k, k ≤ 4 → (outT l R E k).length ≤ k * 27
  | 0, _ => by simp [outT]
  | k + 1, h => by
    rw [outT_succ, List.length_append]
    have h1 := outT_size (l := l) (R := R) (E := E) hl k (by omega)
    have h2 := rowT_size l R E k (l.length ^ k)
    have h3 : l.length ^ k ≤ 3 ^ k := Nat.pow_le_pow_left hl k
    have h4 : 3 ^ k ≤ 3 ^ 3 := Nat.pow_le_pow_right (by decide) (by omega)
    omega
end Go.Proofs.YtonekgefegfapaaGreat

namespace Go.Proofs.YtonekgefegfapaaGreat
open Go.RowKit


theorem nm_texts : outT threeL [46, 46] 0 3 = [[2]] := by kernel_rfl
theorem nm_textsE : textsE threeL ⟨#[46, 46]⟩ 0 2 = 0 := by kernel_rfl
theorem nm_range1 : textsE threeL ⟨#[46, 46]⟩ 4 2 = 2 := by kernel_rfl
theorem nm_range2 : textsE threeL ⟨#[46, 46]⟩ 1 6 = 2 := by kernel_rfl
theorem nm_false : searchE ⟨#[46]⟩ ⟨#[45]⟩ = 11 := by kernel_rfl
theorem nm_form : searchE ⟨#[46]⟩ ⟨#[120]⟩ = 4 := by kernel_rfl
theorem nm_limit : searchE ⟨#[0, 0, 0, 0, 0, 0, 0, 0, 0, 0, 0, 0, 0, 0, 0, 0, 0, 0, 0, 0, 0, 0, 0, 0, 0, 0, 0, 0, 0, 0, 0, 0, 0, 0, 0, 0, 0, 0, 0, 0, 0]⟩ ⟨#[]⟩ = 3 := by kernel_rfl
theorem nm_send : sendE threeL [3] = 2 := by kernel_rfl
theorem nm_send6 : sendE threeL [0, 0, 0, 0, 0, 0] = 3 := by kernel_rfl
theorem nm_p1 : proveB ⟨#[45, 32, 46]⟩ ⟨#[46, 46, 32, 46]⟩ [2, 0, 0] 1 = true := by kernel_rfl
theorem nm_p2 : proveB ⟨#[45, 32, 46]⟩ ⟨#[46, 46, 32, 46]⟩ [2, 0, 0] 0 = false := by kernel_rfl
theorem nm_p3 : proveB ⟨#[45, 32, 46]⟩ ⟨#[46, 46, 32, 46]⟩ [2, 0] 9 = false := by kernel_rfl
theorem nm_p4 : proveB ⟨#[45, 32, 46]⟩ ⟨#[46, 46, 32, 46]⟩ [0, 0, 0] 9 = false := by kernel_rfl
theorem nm_c1 : codeE [⟨#[46]⟩, ⟨#[46]⟩] = 1 := by kernel_rfl
theorem nm_c2 : codeE [⟨#[46, 46, 46, 46, 46]⟩] = 1 := by kernel_rfl
theorem nm_c3 : codeE [⟨#[46, 32, 46]⟩] = 1 := by kernel_rfl
theorem nm_c4 : codeE [⟨#[]⟩, ⟨#[]⟩, ⟨#[]⟩, ⟨#[]⟩, ⟨#[]⟩, ⟨#[]⟩, ⟨#[]⟩] = 3 := by kernel_rfl
theorem nm_c5 : codeE [] = 1 := by kernel_rfl
section
variable (a b c : Value)
theorem nm_r1 : txtE [(a, [1]), (b, [2]), (c, [0, 0])] = 0 := by kernel_rfl
theorem nm_r2 : txtE [(a, [5, 5])] = 0 := by kernel_rfl
theorem nm_r3 : txtE [(a, [1]), (b, [1])] = 6 := by kernel_rfl
theorem nm_r4 : txtE [] = 2 := by kernel_rfl
theorem nm_r5 : txtE [(a, [6])] = 2 := by kernel_rfl
end
theorem nm_s1 : IsShort [[1], [2], [0, 0]] 0 1 := ⟨by decide, by decide, by decide +kernel, by decide +kernel, by decide +kernel⟩
theorem nm_s2 : IsShort [[5, 5]] 0 0 := ⟨by decide, by decide, by decide +kernel, by decide +kernel, by decide +kernel⟩
theorem own_boxN {w : World} {g t n0 : Nat} {cs : List Value} (h : Box w g t cs.toArray) (hg : n0 ≤ g) (h3 : cs.length ≤ 1000) : w.ownsRow n0 t 1 (.slice (some ⟨g, 0, none⟩) cs.length cs.length) cs.length cs := by
  refine ⟨by omega, .inr ⟨g, cs.length, _, rfl, hg, h, Nat.le_refl _, by unfold maxLen; omega, ?_, ?_⟩⟩
  · simp
  · simp
theorem ints_boxN {w : World} {g : Nat} {t : List Int} (h : Box w g 3 (t.map iv).toArray) (hl : t.length ≤ 1000) : RowsAny w (.slice (some ⟨g, 0, none⟩) t.length t.length) 1 ic t := by
  have := own_boxN h (Nat.zero_le g) (by rw [List.length_map]; exact hl)
  rw [List.length_map] at this
  exact rows_any (text_rows this hl)
theorem strs_boxN {w : World} {g : Nat} {l : List ByteArray} (h : Box w g 9 (l.map fun s => .string s).toArray) (hl : l.length ≤ 1000) : RowsAny w (.slice (some ⟨g, 0, none⟩) l.length l.length) 1 sc l := by
  have := own_boxN h (Nat.zero_le g) (by rw [List.length_map]; exact hl)
  rw [List.length_map] at this
  refine rows_any (rows_of_own (base := 0) (e := 9) (cells := sc) ?_ rfl (fun _ => rfl) hl)
  rw [show l.flatMap sc = l.map fun s => .string s by
    clear h hl this
    induction l with
    | nil => rfl
    | cons x l ih => rw [List.flatMap_cons, ih]; rfl]
  exact this
theorem rows_boxN {w : World} {g : Nat} {ps : List (Value × List Int)} (h : Box w g 25 (ps.map (·.1)).toArray) (hl : ps.length ≤ 1000) : RowsAny w (.slice (some ⟨g, 0, none⟩) ps.length ps.length) 1 pc ps := by
  have := own_boxN h (Nat.zero_le g) (by rw [List.length_map]; exact hl)
  rw [List.length_map] at this
  refine rows_any (rows_of_own (base := 0) (e := 25) (cells := pc) ?_ rfl (fun _ => rfl) hl)
  rw [show ps.flatMap pc = ps.map (·.1) by
    clear h hl this
    induction ps with
    | nil => rfl
    | cons x l ih => rw [List.flatMap_cons, ih]; rfl]
  exact this
def ltN (w : World) (t : List Int) : World := w.alloc (.cells (t.map iv).toArray 3)
def svN (g : Nat) (t : List Int) : Value := .slice (some ⟨g, 0, none⟩) t.length t.length
theorem tx1 (w : World) (a : List Int) (ha : a.length ≤ 1000) : TextsAny ((ltN w a).alloc (.cells #[svN w.heap.size a] 25)) (.slice (some ⟨w.heap.size + 1, 0, none⟩) 1 1) [(svN w.heap.size a, a)] :=
  ⟨rows_boxN (ps := [(svN w.heap.size a, a)]) (Box.new (by simp [ltN])) (by simp), fun p hp => by
    obtain rfl := List.mem_singleton.1 hp
    exact (ints_boxN (Box.new rfl) ha).kept (up_alloc up0 _)⟩
theorem tx2 (w : World) (a b : List Int) (ha : a.length ≤ 1000) (hb : b.length ≤ 1000) : TextsAny ((ltN (ltN w a) b).alloc (.cells #[svN w.heap.size a, svN (w.heap.size + 1) b] 25)) (.slice (some ⟨w.heap.size + 1 + 1, 0, none⟩) 2 2) [(svN w.heap.size a, a), (svN (w.heap.size + 1) b, b)] :=
  ⟨rows_boxN (ps := [(svN w.heap.size a, a), (svN (w.heap.size + 1) b, b)]) (Box.new (by simp [ltN])) (by simp), fun p hp => by
    rcases List.mem_cons.1 hp with rfl | hp
    · exact (ints_boxN (Box.new rfl) ha).kept (up_alloc (up_alloc up0 _) _)
    · obtain rfl := List.mem_singleton.1 hp
      exact (ints_boxN (Box.new (by simp [ltN])) hb).kept (up_alloc up0 _)⟩
theorem tx3 (w : World) (a b c : List Int) (ha : a.length ≤ 1000) (hb : b.length ≤ 1000) (hc : c.length ≤ 1000) : TextsAny ((ltN (ltN (ltN w a) b) c).alloc (.cells #[svN w.heap.size a, svN (w.heap.size + 1) b, svN (w.heap.size + 1 + 1) c] 25)) (.slice (some ⟨w.heap.size + 1 + 1 + 1, 0, none⟩) 3 3) [(svN w.heap.size a, a), (svN (w.heap.size + 1) b, b), (svN (w.heap.size + 1 + 1) c, c)] :=
  ⟨rows_boxN (ps := [(svN w.heap.size a, a), (svN (w.heap.size + 1) b, b), (svN (w.heap.size + 1 + 1) c, c)]) (Box.new (by simp [ltN])) (by simp), fun p hp => by
    rcases List.mem_cons.1 hp with rfl | hp
    · exact (ints_boxN (Box.new rfl) ha).kept (up_alloc (up_alloc (up_alloc up0 _) _) _)
    · rcases List.mem_cons.1 hp with rfl | hp
      · exact (ints_boxN (Box.new (by simp [ltN])) hb).kept (up_alloc (up_alloc up0 _) _)
      · obtain rfl := List.mem_singleton.1 hp
        exact (ints_boxN (Box.new (by simp [ltN])) hc).kept (up_alloc up0 _)⟩
theorem in1 (w : World) (a : List Int) (ha : a.length ≤ 1000) : RowsAny (ltN w a) (svN w.heap.size a) 1 ic a := ints_boxN (Box.new rfl) ha
def stN (w : World) (l : List ByteArray) : World := w.alloc (.cells (l.map fun s => .string s).toArray 9)
theorem st1 (w : World) (l : List ByteArray) (hl : l.length ≤ 1000) : RowsAny (stN w l) (.slice (some ⟨w.heap.size, 0, none⟩) l.length l.length) 1 sc l := strs_boxN (Box.new rfl) hl
theorem tx0 (w : World) : TextsAny w (.slice none 0 0) [] := ⟨⟨_, _, rfl, by simp, by simp, fun h => absurd rfl h⟩, fun p hp => by cases hp⟩
theorem st0 (w : World) : RowsAny w (.slice none 0 0) 1 sc ([] : List ByteArray) := ⟨_, _, rfl, by simp, by simp, fun h => absurd rfl h⟩
def Fact.codeN (l : List ByteArray) : Fact := ⟨fun v w => ∃ u, v = .agg #[u] ∧ RowsAny w u 1 sc l, fun _ _ _ ⟨u, h, h1⟩ hb => ⟨u, h, h1.kept hb⟩, false, fun _ _ h => by cases h⟩
def Fact.intsN (l : List Int) : Fact := ⟨fun v w => ∃ g, v = svN g l ∧ RowsAny w (svN g l) 1 ic l, fun _ _ _ ⟨u, h, h1⟩ hb => ⟨u, h, h1.kept hb⟩, false, fun _ _ h => by cases h⟩
theorem conv41' (w : World) : (convert 65 9 (.slice (some ⟨w.heap.size, 0, none⟩) 41 41)).run Tryz.prog (w.alloc (.cells (List.replicate 41 (.int .u8 0)).toArray 5)) = .ok (.string ⟨(List.replicate 41 0).toArray⟩) (w.alloc (.cells (List.replicate 41 (.int .u8 0)).toArray 5)) := by
  have hb := Box.new (w := w) (t := 5) (cs := (List.replicate 41 (.int .u8 0)).toArray) rfl
  have := run_convert_bytes_back (P := Tryz.prog) (w.alloc (.cells (List.replicate 41 (.int .u8 0)).toArray 5)) 65 9 5 ⟨w.heap.size, 0, none⟩ 41 (List.replicate 41 0) (by kernel_rfl) (by kernel_rfl) (by kernel_rfl) (fun j hj => by
    have h := hb.cell j
    have hj2 : j < 41 := by rwa [List.length_replicate] at hj
    rw [show (⟨w.heap.size, 0, none⟩ : Addr).add j = ⟨w.heap.size, j, none⟩ by unfold Addr.add; by_cases h : j = 0 <;> simp [h], h, List.getElem?_toArray, List.getElem?_replicate, if_pos hj2, List.getElem_replicate]
    rfl)
  rwa [List.length_replicate] at this
set_option maxRecDepth 100000 in
theorem conv41 (w : World) : (convert 65 9 (.slice (some ⟨w.heap.size, 0, none⟩) 41 41)).run Tryz.prog (w.alloc (.cells #[.int .u8 0, .int .u8 0, .int .u8 0, .int .u8 0, .int .u8 0, .int .u8 0, .int .u8 0, .int .u8 0, .int .u8 0, .int .u8 0, .int .u8 0, .int .u8 0, .int .u8 0, .int .u8 0, .int .u8 0, .int .u8 0, .int .u8 0, .int .u8 0, .int .u8 0, .int .u8 0, .int .u8 0, .int .u8 0, .int .u8 0, .int .u8 0, .int .u8 0, .int .u8 0, .int .u8 0, .int .u8 0, .int .u8 0, .int .u8 0, .int .u8 0, .int .u8 0, .int .u8 0, .int .u8 0, .int .u8 0, .int .u8 0, .int .u8 0, .int .u8 0, .int .u8 0, .int .u8 0, .int .u8 0] 5)) = .ok (.string ⟨#[0, 0, 0, 0, 0, 0, 0, 0, 0, 0, 0, 0, 0, 0, 0, 0, 0, 0, 0, 0, 0, 0, 0, 0, 0, 0, 0, 0, 0, 0, 0, 0, 0, 0, 0, 0, 0, 0, 0, 0, 0]⟩) (w.alloc (.cells #[.int .u8 0, .int .u8 0, .int .u8 0, .int .u8 0, .int .u8 0, .int .u8 0, .int .u8 0, .int .u8 0, .int .u8 0, .int .u8 0, .int .u8 0, .int .u8 0, .int .u8 0, .int .u8 0, .int .u8 0, .int .u8 0, .int .u8 0, .int .u8 0, .int .u8 0, .int .u8 0, .int .u8 0, .int .u8 0, .int .u8 0, .int .u8 0, .int .u8 0, .int .u8 0, .int .u8 0, .int .u8 0, .int .u8 0, .int .u8 0, .int .u8 0, .int .u8 0, .int .u8 0, .int .u8 0, .int .u8 0, .int .u8 0, .int .u8 0, .int .u8 0, .int .u8 0, .int .u8 0, .int .u8 0] 5)) := conv41' w
end Go.Proofs.YtonekgefegfapaaGreat

namespace Go.Proofs.YtonekgefegfapaaGreat
open Go.RowKit

theorem up1 {n : Nat} {w w' : World} {o : Obj} (h : Below n w w') (hn : n ≤ w'.heap.size) : Below n w (w'.alloc o) := h.alloc hn _
set_option maxRecDepth 100000 in
set_option maxHeartbeats 4000000 in
theorem names_law (w : World) : Calls Tryz.prog 8 #[] w fun e w' => e = .returned (.bool true) ∧ Below w.heap.size w w' := by
  have h41 : ∀ w, (Instr.makeSlice 65 (.int .i64 41) (.int .i64 41)).run Tryz.prog w = .ok (.slice (some ⟨w.heap.size, 0, none⟩) 41 41) (w.alloc (.cells (List.replicate 41 (.int .u8 0)).toArray 5)) := fun w => by kernel_rfl
  have h7 : ∀ w, (Instr.makeSlice 22 (.int .i64 7) (.int .i64 7)).run Tryz.prog w = .ok (.slice (some ⟨w.heap.size, 0, none⟩) 7 7) (w.alloc (.cells (List.replicate 7 (.string ⟨#[]⟩)).toArray 9)) := fun w => by kernel_rfl
  have h6 : ∀ w, (Instr.makeSlice 25 (.int .i64 6) (.int .i64 6)).run Tryz.prog w = .ok (.slice (some ⟨w.heap.size, 0, none⟩) 6 6) (w.alloc (.cells #[iv 0, iv 0, iv 0, iv 0, iv 0, iv 0] 3)) := fun w => by kernel_rfl
  have hB : Below w.heap.size w w := Below.refl _ _
  go_enter Tryz.func8, Tryz.ntmps8
  go_wp2_with fail
  refine (three_any _).mono ?_
  rintro e w1 ⟨v1, rfl, hth, hb⟩
  have hth := rows_any hth
  have hB2 := up_later hB hb
  have hB := hB2
  clear hb hB2
  go_wp2_with fail
  refine (Texts_any v1 threeL ⟨#[46, 46]⟩ 0 2 _ hth).mono ?_
  rintro e w2 ⟨u2, ps2, rfl, hp, hi, -, hb⟩
  rw [nm_textsE]
  obtain ⟨A2, c2, hf, -, -⟩ := hp.1.form
  subst hf
  have hts := (outT_is (by decide) (by decide) (by decide) (hi nm_textsE)).trans nm_texts
  have T2 := Lib.hid hp
  have HTs := Lib.hid hts
  clear hi hth hp hts
  have hB2 := up_later hB hb
  have hB := hB2
  clear hb hB2
  go_wp2_with fail
  refine (Repeat_any _ _ _ (tx3 _ [1] [2] [0, 0] (by decide) (by decide) (by decide))).mono ?_
  rintro e w3 ⟨f, m, rfl, hs, -, hb⟩
  rw [nm_r1]
  obtain ⟨rfl, rfl⟩ := short_eq (hs (nm_r1 ..)) nm_s1
  have T2 := Lib.hid (T2.out.kept (up_later ((fun h => up_alloc (up_alloc (up_alloc (up_alloc h _) _) _) _) up0) hb))
  have hB2 := up_later ((fun h => up_alloc (up_alloc (up_alloc (up_alloc h _) _) _) _) hB) hb
  have hB := hB2
  clear hb hB2
  clear hs
  go_wp2_with fail
  refine (Repeat_any _ _ _ (tx1 _ [5, 5] (by decide))).mono ?_
  rintro e w4 ⟨f, m, rfl, hs, -, hb⟩
  rw [nm_r2]
  obtain ⟨rfl, rfl⟩ := short_eq (hs (nm_r2 ..)) nm_s2
  have T2 := Lib.hid (T2.out.kept (up_later ((fun h => up_alloc (up_alloc h _) _) up0) hb))
  have hB2 := up_later ((fun h => up_alloc (up_alloc h _) _) hB) hb
  have hB := hB2
  clear hb hB2
  clear hs
  go_wp2_with fail
  refine (same_any _ _ ps2 _ _ (T2.out.kept (up_alloc (up_alloc up0 _) _)) (tx1 _ [2] (by decide))).mono ?_
  rintro e w5 ⟨rfl, hb⟩
  rw [show (decide (ps2.map (·.2) = [(svN w4.heap.size [2], [2])].map (·.2))) = true from decide_eq_true HTs.out]
  have hB2 := up_later (up_alloc (up_alloc hB _) _) hb
  have hB := hB2
  clear hb hB2
  go_wp2_with fail
  refine (ProveSteps_any ⟨#[45, 32, 46]⟩ ⟨#[46, 46, 32, 46]⟩ _ [2, 0, 0] 1 _ (in1 _ [2, 0, 0] (by decide))).mono ?_
  rintro e w6 ⟨rfl, hb⟩
  rw [nm_p1]
  have hB2 := up_later (up_alloc hB _) hb
  have hB := hB2
  clear hb hB2
  go_wp2_with fail
  refine (ProveSteps_any ⟨#[45, 32, 46]⟩ ⟨#[46, 46, 32, 46]⟩ _ [2, 0, 0] 0 _ (in1 _ [2, 0, 0] (by decide))).mono ?_
  rintro e w7 ⟨rfl, hb⟩
  rw [nm_p2]
  have hB2 := up_later (up_alloc hB _) hb
  have hB := hB2
  clear hb hB2
  go_wp2_with fail
  refine (ProveSteps_any ⟨#[45, 32, 46]⟩ ⟨#[46, 46, 32, 46]⟩ _ [2, 0] 9 _ (in1 _ [2, 0] (by decide))).mono ?_
  rintro e w8 ⟨rfl, hb⟩
  rw [nm_p3]
  have hB2 := up_later (up_alloc hB _) hb
  have hB := hB2
  clear hb hB2
  go_wp2_with fail
  refine (ProveSteps_any ⟨#[45, 32, 46]⟩ ⟨#[46, 46, 32, 46]⟩ _ [0, 0, 0] 9 _ (in1 _ [0, 0, 0] (by decide))).mono ?_
  rintro e w9 ⟨rfl, hb⟩
  rw [nm_p4]
  have hB2 := up_later (up_alloc hB _) hb
  have hB := hB2
  clear hb hB2
  go_wp2_with fail
  refine (Errors_any ⟨#[46]⟩ ⟨#[45]⟩ _).mono ?_
  rintro e w10 ⟨rfl, hb⟩
  rw [nm_false]
  have hB2 := up_later hB hb
  have hB := hB2
  clear hb hB2
  go_wp2_with fail
  refine (Errors_any ⟨#[46]⟩ ⟨#[120]⟩ _).mono ?_
  rintro e w11 ⟨rfl, hb⟩
  rw [nm_form]
  have hB2 := up_later hB hb
  have hB := hB2
  clear hb hB2
  clear T2 HTs
  go_wp2_with (first | rw [h41] | rw [conv41])
  refine (Explain_any ⟨#[0, 0, 0, 0, 0, 0, 0, 0, 0, 0, 0, 0, 0, 0, 0, 0, 0, 0, 0, 0, 0, 0, 0, 0, 0, 0, 0, 0, 0, 0, 0, 0, 0, 0, 0, 0, 0, 0, 0, 0, 0]⟩ ⟨#[]⟩ _).mono ?_
  rintro e w12 ⟨u, rfl, -, hno, hb⟩
  rw [nm_limit]
  obtain rfl := hno (by rw [nm_limit]; decide)
  clear hno
  have hB2 := up_later (up_alloc hB _) hb
  have hB := hB2
  clear hb hB2
  go_wp2_with fail
  refine (three_any _).mono ?_
  rintro e w13 ⟨v13, rfl, hth, hb⟩
  have hth := rows_any hth
  have hB2 := up_later hB hb
  have hB := hB2
  clear hb hB2
  go_wp2_with fail
  refine (Texts_any _ threeL ⟨#[46, 46]⟩ 4 2 _ hth).mono ?_
  rintro e w14 ⟨u, ps, rfl, -, -, hno, hb⟩
  rw [nm_range1]
  obtain ⟨rfl, rfl⟩ := hno (by rw [nm_range1]; decide)
  clear hno hth
  have hB2 := up_later hB hb
  have hB := hB2
  clear hb hB2
  go_wp2_with fail
  refine (three_any _).mono ?_
  rintro e w15 ⟨v15, rfl, hth, hb⟩
  have hth := rows_any hth
  have hB2 := up_later hB hb
  have hB := hB2
  clear hb hB2
  go_wp2_with fail
  refine (Texts_any _ threeL ⟨#[46, 46]⟩ 1 6 _ hth).mono ?_
  rintro e w16 ⟨u, ps, rfl, -, -, hno, hb⟩
  rw [nm_range2]
  obtain ⟨rfl, rfl⟩ := hno (by rw [nm_range2]; decide)
  clear hno hth
  have hB2 := up_later hB hb
  have hB := hB2
  clear hb hB2
  go_wp2_with fail
  refine (three_any _).mono ?_
  rintro e w17 ⟨v17, rfl, hth, hb⟩
  have hth := rows_any hth
  have hB2 := up_later hB hb
  have hB := hB2
  clear hb hB2
  go_wp2_with fail
  refine (Send_any _ _ threeL [3] _ (hth.kept (up_alloc up0 _)) (in1 _ [3] (by decide))).mono ?_
  rintro e w18 ⟨rfl, hb⟩
  rw [nm_send]
  clear hth
  have hB2 := up_later (up_alloc hB _) hb
  have hB := hB2
  clear hb hB2
  go_wp2_with fail
  apply wp_region_by 8 [(Fact.codeN threeL), (Fact.intsN [0, 0, 0, 0, 0, 0]), (Fact.eq (.tuple #[.string ⟨(sendS threeL [0, 0, 0, 0, 0, 0]).toArray⟩, iv 3])), (Fact.eq _), (Fact.eq _), (Fact.eq _), (Fact.eq _), (Fact.eq _)]
  case hm => kernel_rfl
  case hB => kernel_rfl
  case hA => (intro vs; simp only [List.take_succ_cons, List.take_zero, putAll, if_true, Act.put, List.setIfInBounds_toArray, List.set_cons_zero, List.set_cons_succ]; exact rfl)
  case hstep =>
    intro vs
    refine And.intro (fun w hw hd => ?_) ?_
    · refine ite_yes rfl ?_
      simp only [Gives]
      go_simp
      refine (three_any w).mono ?_
      rintro e w7 ⟨u, rfl, hu, hb⟩
      exact ⟨_, rfl, hb, ⟨u, rfl, rows_any hu⟩, fun h => by cases h⟩
    refine And.intro (fun w hw hd => ?_) ?_
    · refine ite_yes rfl ?_
      simp only [Gives]
      go_simp
      (try rw [h6])
      exact ⟨(Below.refl _ _).alloc (Nat.le_refl _) _, ⟨_, rfl, in1 w [0, 0, 0, 0, 0, 0] (by decide)⟩, fun h => by cases h⟩
    refine And.intro (fun w hw hd => ?_) ?_
    · have d0 := hd 0 (by decide) rfl
      obtain ⟨u0, d0, R0⟩ := d0
      have d1 := hd 1 (by decide) rfl
      obtain ⟨g1, d1, R1⟩ := d1
      refine ite_yes rfl ?_
      simp only [Gives]
      go_simp
      refine (Send_any u0 _ threeL [0, 0, 0, 0, 0, 0] w R0 R1).mono ?_
      rintro e w7 ⟨rfl, hb⟩
      rw [nm_send6]
      exact ⟨_, rfl, hb, rfl, fun h => by cases h⟩
    refine And.intro (fun w hw hd => ?_) ?_
    · have d2 := hd 2 (by decide) rfl
      change vs 2 = _ at d2
      refine ite_yes rfl ?_
      simp only [Gives]
      go_simp
      exact ⟨Below.refl _ _, rfl, fun h => by cases h⟩
    refine And.intro (fun w hw hd => ?_) ?_
    · have d3 := hd 3 (by decide) rfl
      change vs 3 = _ at d3
      refine ite_yes rfl ?_
      simp only [Gives]
      go_simp
      exact ⟨Below.refl _ _, rfl, fun h => by cases h⟩
    refine And.intro (fun w hw hd => ?_) ?_
    · have d3 := hd 3 (by decide) rfl
      change vs 3 = _ at d3
      refine ite_yes rfl ?_
      simp only [Gives]
      go_simp
      exact ⟨Below.refl _ _, rfl, fun h => by cases h⟩
    refine And.intro (fun w hw hd => ?_) ?_
    · have d4 := hd 4 (by decide) rfl
      change vs 4 = _ at d4
      refine ite_yes rfl ?_
      simp only [Gives]
      go_simp
      exact ⟨Below.refl _ _, rfl, fun h => by cases h⟩
    refine And.intro (fun w hw hd => ?_) ?_
    · have d5 := hd 5 (by decide) rfl
      change vs 5 = _ at d5
      refine ite_yes rfl ?_
      simp only [Gives]
      go_simp
      exact ⟨Below.refl _ _, rfl, fun h => by cases h⟩
    exact trivial
  intro vs wt hw hd hne hlo
  have d0 := hd 0 (by decide)
  obtain ⟨u0, d0, R0⟩ := d0
  have d1 := hd 1 (by decide)
  obtain ⟨g1, d1, R1⟩ := d1
  have d2 := hd 2 (by decide)
  change vs 2 = _ at d2
  have d3 := hd 3 (by decide)
  change vs 3 = _ at d3
  have d4 := hd 4 (by decide)
  change vs 4 = _ at d4
  have d5 := hd 5 (by decide)
  change vs 5 = _ at d5
  have d6 := hd 6 (by decide)
  change vs 6 = _ at d6
  have d7 := hd 7 (by decide)
  change vs 7 = _ at d7
  simp only [d3, d4, d5, d6, d7, List.drop_succ_cons, List.drop_nil]
  clear hd hne hlo d3 d4 d5 d6 d7
  have hB19 := up_later hB hw
  have hB := hB19
  clear hB19 hw
  go_wp2_with fail
  refine (Repeat_any _ _ _ (tx2 _ [1] [1] (by decide) (by decide))).mono ?_
  rintro e w20 ⟨f, m, rfl, -, hz, hb⟩
  rw [nm_r3]
  obtain ⟨rfl, rfl⟩ := hz (by rw [nm_r3]; decide)
  have hB2 := up_later ((fun h => up_alloc (up_alloc (up_alloc h _) _) _) hB) hb
  have hB := hB2
  clear hb hB2
  clear hz
  go_wp2_with fail
  refine (Repeat_any _ _ _ (tx0 _)).mono ?_
  rintro e w21 ⟨f, m, rfl, -, hz, hb⟩
  rw [nm_r4]
  obtain ⟨rfl, rfl⟩ := hz (by rw [nm_r4]; decide)
  have hB2 := up_later ((fun h => h) hB) hb
  have hB := hB2
  clear hb hB2
  clear hz
  go_wp2_with fail
  refine (Repeat_any _ _ _ (tx1 _ [6] (by decide))).mono ?_
  rintro e w22 ⟨f, m, rfl, -, hz, hb⟩
  rw [nm_r5]
  obtain ⟨rfl, rfl⟩ := hz (by rw [nm_r5]; decide)
  have hB2 := up_later (up_alloc (up_alloc hB _) _) hb
  have hB := hB2
  clear hb hB2
  clear hz
  go_wp2_with fail

  refine (CheckCode_any _ _ _ (st1 _ [⟨#[46]⟩, ⟨#[46]⟩] (by decide))).mono ?_
  rintro e w23 ⟨rfl, hb⟩
  rw [nm_c1]
  have hB2 := up_later ((fun h => up_alloc h _) hB) hb
  have hB := hB2
  clear hb hB2
  go_wp2_with fail
  refine (CheckCode_any _ _ _ (st1 _ [⟨#[46, 46, 46, 46, 46]⟩] (by decide))).mono ?_
  rintro e w24 ⟨rfl, hb⟩
  rw [nm_c2]
  have hB2 := up_later ((fun h => up_alloc h _) hB) hb
  have hB := hB2
  clear hb hB2
  go_wp2_with fail
  refine (CheckCode_any _ _ _ (st1 _ [⟨#[46, 32, 46]⟩] (by decide))).mono ?_
  rintro e w25 ⟨rfl, hb⟩
  rw [nm_c3]
  have hB2 := up_later (up_alloc hB _) hb
  have hB := hB2
  clear hb hB2
  go_wp2_with (rw [h7])
  refine (CheckCode_any _ _ _ (st1 _ [⟨#[]⟩, ⟨#[]⟩, ⟨#[]⟩, ⟨#[]⟩, ⟨#[]⟩, ⟨#[]⟩, ⟨#[]⟩] (by decide))).mono ?_
  rintro e w26 ⟨rfl, hb⟩
  rw [nm_c4]
  have hB2 := up_later ((fun h => up_alloc h _) hB) hb
  have hB := hB2
  clear hb hB2
  go_wp2_with fail
  refine (CheckCode_any _ _ _ (st0 _)).mono ?_
  rintro e w27 ⟨rfl, hb⟩
  rw [nm_c5]
  have hB2 := up_later ((fun h => h) hB) hb
  have hB := hB2
  clear hb hB2
  go_wp2_with fail
  refine (awake_any _).mono ?_
  rintro e w28 ⟨rfl, hb⟩
  go_wp2_with fail
  go_ret
  exact ⟨rfl, up_later hB hb⟩
end Go.Proofs.YtonekgefegfapaaGreat

namespace Go.Proofs.YtonekgefegfapaaGreat
open Go.ChangeShapes Go.WideShapes Go.ChangeAt Go.RowKit

theorem und24 : Tryz.prog.underlying 24 = some (.struct (Tryz.prog.fieldsOf 24)) := by kernel_rfl
section
variable {H : Type} {enc : TypeId × Value → H} {W : World} {base : Nat} {spare : Nat → Bool} {held : Bool}
theorem open_str {fuel : Nat} {cs : List Value} {x : DataW H × List MemPlace} (h : DataW.trod enc Tryz.prog W base spare held fuel 9 cs = some x) : ∃ s : ByteArray, cs = sc s ∧ True := by
  obtain ⟨z, hz, _⟩ := DataW.trod_string Tryz.underlying9 h
  exact ⟨z, hz, trivial⟩
theorem open_words {fuel : Nat} {cs : List Value} {x : DataW H × List MemPlace} (h : DataW.trod enc Tryz.prog W base spare held fuel 22 cs = some x) : ∃ v l, cs = [v] ∧ RowsAny W v 1 sc l := by
  obtain ⟨v, l, e, r, _⟩ := open_rows (e := 9) (sz := 1) (cells := sc) (p := fun _ => True) (by kernel_rfl) (by kernel_rfl) (by omega) (fun _ _ _ h => open_str h) h
  exact ⟨v, l, e, r⟩
theorem open_code {fuel : Nat} {cs : List Value} {x : DataW H × List MemPlace} (h : DataW.trod enc Tryz.prog W base spare held fuel 24 cs = some x) : ∃ v l, cs = [v] ∧ RowsAny W v 1 sc l := by
  have hf : (Tryz.prog.fieldsOf 24).toList.map (fun f => (f.type, f.offset)) = [(22, 0)] := by kernel_rfl
  have hc : Tryz.prog.cellsOf 24 = 1 := by kernel_rfl
  obtain ⟨xs, m, _, _, hlen, hxs, hel⟩ := DataW.trod_struct und24 h
  generalize Tryz.prog.fieldsOf 24 = fs at hf hxs hel
  obtain ⟨fs⟩ := fs
  rcases fs with _ | ⟨f0, _ | ⟨f1, r⟩⟩ <;> simp at hf
  obtain ⟨t0, o0⟩ := hf
  have g0 := hel 0 f0 rfl
  have k22 : Tryz.prog.cellsOf 22 = 1 := by kernel_rfl
  rw [t0, o0, k22] at g0
  have hx1 : xs.length = 1 := by simpa using hxs
  obtain ⟨y0, hy0⟩ : ∃ y, xs[0]? = some y := ⟨_, List.getElem?_eq_getElem (by omega)⟩
  rw [hy0] at g0
  obtain ⟨v, l, e, r⟩ := open_words g0
  refine ⟨v, l, ?_, r⟩
  rw [hc] at hlen
  rcases cs with _ | ⟨a, _ | ⟨b, r⟩⟩ <;> simp at hlen
  exact e
theorem open_texts {fuel : Nat} {cs : List Value} {x : DataW H × List MemPlace} (h : DataW.trod enc Tryz.prog W base spare held fuel 50 cs = some x) : ∃ v ps, cs = [v] ∧ TextsAny W v ps := by
  obtain ⟨v, l, e, r, hp⟩ := open_rows (e := 25) (sz := 1) (cells := pc) (p := fun p => RowsAny W p.1 1 ic p.2) (by kernel_rfl) (by kernel_rfl) (by omega) (fun _ _ _ h => by
    obtain ⟨v, l, e, r⟩ := open_list h
    exact ⟨(v, l), e, r⟩) h
  exact ⟨v, l, e, r, hp⟩
end
end Go.Proofs.YtonekgefegfapaaGreat

namespace Go.Proofs.YtonekgefegfapaaGreat
open Go.ChangeShapes Go.WideShapes Go.ChangeAt Go.RowKit

set_option maxRecDepth 100000 in
theorem flashNames_lifted (os : Os) (started : os.Started) (H : Type) (enc : TypeId × Value → H) :
    ReturnsInHanded {} Tryz.checked os 8 .any (Rows.flashNamesSpec.pre6 enc Tryz.prog Tryz.f8 Rows.flashNamesRow.domain false) (Rows.flashNamesSpec.post enc Tryz.prog Tryz.f8 false true false false) := by
  refine returnsInHanded_of_change (C := Tryz.checked) own_knob started (by kernel_rfl) Tryz.func8
    (ChangeSpec.witness6 (enc := enc) (C := Tryz.checked) false ⟨#[], #[], []⟩ 8 (by kernel_rfl) (by kernel_rfl) (by kernel_rfl) (by kernel_rfl)) ?_
  intro W base args ds gs before hval0 hW hcnd _
  have hW' := hW
  obtain ⟨p, q, hA0, hV, rfl, hfz, hnd⟩ := hW
  have hA : DataW.TrodAll enc Tryz.prog W 0 (fun _ => true) true Tryz.f8.params.toList args.toList ds p := hA0
  rw [Tryz.params8] at hA
  obtain ⟨rfl, rfl, rfl⟩ := trodAll_none hA
  obtain ⟨rfl, rfl⟩ := trodVars_none hV
  clear hA0 hval0
  simp only [List.append_nil] at hW'
  refine (names_law W).mono fun e W' ⟨he, hg⟩ => ?_
  subst he
  exact ⟨_, rfl, post_below (pa := []) (pv := []) hW' hg (fun _ _ _ => (trodAll_cons_mk (shut_bool Tryz.underlying4 _) trodAll_mk0)) (fun sp _ => rfl) (fun _ _ => rfl) rfl
    (ok_one (by kernel_rfl) rfl (okWide_bool_mk Tryz.underlying4 _))⟩

theorem flashNames_over : Rows.flashNamesRow.holds Tryz.pinned (OpenSpec.ofChange Rows.flashNamesSpec) :=
  OpenClaim.holds_of_wide 8 Tryz.f8 rfl rfl rfl rfl rfl rfl rfl ⟨rfl, rfl, rfl, rfl, rfl⟩ rfl rfl rfl rfl rfl (by kernel_rfl) Tryz.func8 (by kernel_rfl)
    (of_decide_eq_true (by kernel_rfl)) (by unfold Func.isWrapper; first | (rw [if_pos (by decide +kernel)]; kernel_rfl) | (rw [if_neg (by decide +kernel)]; exact ⟨rfl, rfl⟩))
    (fun os started H enc _ => flashNames_lifted os started H enc)

theorem FlashNames_holds : Rows.FlashNamesSaid := flashNames_over

end Go.Proofs.YtonekgefegfapaaGreat

