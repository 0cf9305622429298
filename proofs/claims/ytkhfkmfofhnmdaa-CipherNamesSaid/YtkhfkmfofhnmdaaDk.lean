/-
  PLAIN: what Code makes, Decode reads.
-/
import Derived.Test.YtkhfkmfofhnmdaaDj
namespace Go.Proofs.Ytkhfkmfofhnmdaa
open Go.RowKit Go.Shelf

/-- A valid book, and a plain text of it. -/
def readyB' (b : Bk) (l : List Int) : Prop := bookE b = 0 ∧ l.length ≤ 10 ∧ (l.all fun x => belowB x b.n) = true
theorem plains_codes {n : Int} {k : Ky} (hu : undoI k.m n * k.m % n = 1) : ∀ (i : Nat) (l : List Int), (∀ x ∈ l, 0 ≤ x ∧ x < n) → plainsI n k i (codesI n k i l) = l
  | _, [], _ => rfl
  | i, p :: l, h => by
    rw [codesI, plainsI, plain_code hu (h p (List.mem_cons_self ..)), plains_codes hu (i + 1) l fun x hx => h x (List.mem_cons_of_mem _ hx)]
theorem dispatch_len (b : Bk) (day : Nat) (l : List Int) : (dispatchI b day l).length = l.length + 2 := by
  simp [dispatchI, codesI_len]
theorem disp_ok {b : Bk} (hok : BookOK b) {day : Nat} {l : List Int} (hl : l.length ≤ 10) : dispE b day (dispatchI b day l) = 0 := by
  have hn := hok.n1
  have hlen := dispatch_len b day l
  have hall : (dispatchI b day l).all (fun x => belowB x b.n) = true := by
    rw [List.all_eq_true]
    intro x hx
    rw [belowB_iff]
    unfold dispatchI at hx
    rcases List.mem_append.1 hx with h | h
    · rcases List.mem_cons.1 h with h | h
      · have := indI_in hok day
        omega
      · exact codesI_in (keyOf b day) (by omega) 0 l x h
    · rw [List.mem_singleton.1 h]
      exact ⟨Int.emod_nonneg _ (by omega), Int.emod_lt_of_pos _ (by omega)⟩
  have h1 : (dispatchI b day l).headD 0 = indI b day := rfl
  have h2 : (dispatchI b day l).getLastD 0 = checkI b.n (dispatchI b day l).dropLast := by
    unfold dispatchI
    rw [List.dropLast_concat, List.getLastD_eq_getLast?, List.getLast?_concat]
    rfl
  unfold dispE
  rw [if_neg (by rw [hlen, hall]; simp; omega), if_neg (by rw [h1]; simp), if_neg (by rw [h2]; simp)]
theorem code_ready {b : Bk} {l : List Int} {day : Nat} (hr : readyB' b l) (hd : day < b.ds.length) : codeE b day l = (dispatchI b day l, 0) := by
  obtain ⟨h1, h2, h3⟩ := hr
  unfold codeE
  rw [if_neg (by simpa using h1), if_neg (by rw [show belowB (day : Int) b.ds.length = true from belowB_iff.2 (by omega)]; simp), if_neg (by omega), if_neg (by rw [h3]; simp), Int.toNat_natCast]
theorem decode_back {b : Bk} {l : List Int} {day : Nat} (hr : readyB' b l) (hd : day < b.ds.length) : decodeE b day (dispatchI b day l) = (l, l.filter (fun x => !nullB b.w x), 0) := by
  obtain ⟨h1, h2, h3⟩ := hr
  have hok := BookOK.of h1
  have hk := hok.key hd
  have e1 : ((dispatchI b day l).take ((dispatchI b day l).length - 1)).drop 1 = codesI b.n (keyOf b day) 0 l := by
    rw [dispatch_len]
    unfold dispatchI
    rw [show l.length + 2 - 1 = (indI b day :: codesI b.n (keyOf b day) 0 l).length by simp [codesI_len], List.take_left]
    rfl
  have e2 : plainsI b.n (keyOf b day) 0 (codesI b.n (keyOf b day) 0 l) = l := plains_codes (undo_ok hok.pr hok.n1 hok.n2 hk.1 hk.2.1) 0 l fun x hx => belowB_iff.1 (List.all_eq_true.1 h3 x hx)
  unfold decodeE
  rw [if_neg (by simpa using h1), if_neg (by rw [show belowB (day : Int) b.ds.length = true from belowB_iff.2 (by omega)]; simp), Int.toNat_natCast, if_neg (by rw [disp_ok hok h2]; simp), e1, e2]
theorem filter_take {l : List Int} {p : Int → Bool} {k : Nat} {x : Int} (hx : l[k]? = some x) : (l.take (k + 1)).filter p = (l.take k).filter p ++ if p x then [x] else [] := by
  rw [List.take_add_one, hx, List.filter_append]
  simp [List.filter_cons]
end Go.Proofs.Ytkhfkmfofhnmdaa
