/-
  WALK of the reference's Exposed. Conditions: lists have at most 1000 elements; the losses are valid.
-/
import Derived.Test.YtkhfkmfofhnmdaaDo
namespace Go.Proofs.Ytkhfkmfofhnmdaa
open Go.RowKit Go.Shelf
attribute [local go_sem] Oper.semAt_some

theorem least_iff (d : Int) : ∀ (l : List Int) (n : Int), leastI n l ≤ d ↔ n ≤ d ∨ ∃ x ∈ l, x ≤ d
  | [], n => by simp [leastI]
  | a :: l, n => by
    have ih := least_iff d l (min n a)
    unfold leastI at ih ⊢
    rw [List.foldl_cons, ih]
    constructor
    · rintro (h | ⟨x, hx, h⟩)
      · by_cases h1 : n ≤ d
        · exact .inl h1
        · exact .inr ⟨a, List.mem_cons_self .., by omega⟩
      · exact .inr ⟨x, List.mem_cons_of_mem _ hx, h⟩
    · rintro (h | ⟨x, hx, h⟩)
      · exact .inl (by omega)
      · rcases List.mem_cons.1 hx with rfl | hx
        · exact .inl (by omega)
        · exact .inr ⟨x, hx, h⟩
theorem had_taken {n : Nat} {ls : List Ls} {key d : Int} (hd : d < n) : hadB ls key d = decide (takenI n ls key ≤ d) := by
  rw [Bool.eq_iff_iff, decide_eq_true_iff]
  unfold takenI hadB takenL
  rw [least_iff, List.any_eq_true]
  constructor
  · rintro ⟨x, hx, h⟩
    simp only [Bool.and_eq_true, beq_iff_eq, decide_eq_true_eq] at h
    exact .inr ⟨x.d, List.mem_map.2 ⟨x, List.mem_filter.2 ⟨hx, by simpa using h.1⟩, rfl⟩, h.2⟩
  · rintro (h | ⟨y, hy, h⟩)
    · omega
    · obtain ⟨x, hx, rfl⟩ := List.mem_map.1 hy
      obtain ⟨h1, h2⟩ := List.mem_filter.1 hx
      exact ⟨x, h1, by simpa using ⟨by simpa using h2, h⟩⟩
/-- From when on, of the last j days. -/
def scanI (ls : List Ls) (key : Int) (n : Nat) : Nat → Int
  | 0 => -1
  | j + 1 => if hadB ls key ((n : Int) - 1 - j) then (n : Int) - 1 - j else scanI ls key n j
theorem scan_eq (ls : List Ls) (key : Int) (n : Nat) : ∀ j : Nat, j ≤ n → scanI ls key n j = expI n ls key ((n : Int) - j)
  | 0, _ => by
    have h : takenI n ls key ≤ n := (least_iff n _ _).2 (.inl (Int.le_refl _))
    unfold scanI expI
    rw [if_pos (by omega)]
  | j + 1, hj => by
    unfold scanI
    rw [had_taken (n := n) (by omega), scan_eq ls key n j (by omega)]
    unfold expI
    by_cases h : takenI n ls key ≤ (n : Int) - 1 - j
    · rw [if_pos (decide_eq_true h), if_neg (by omega)]
      omega
    · rw [if_neg (by rw [decide_eq_true_eq]; exact h)]
      have e1 : max ((n : Int) - j) (takenI n ls key) = max ((n : Int) - (j + 1 : Nat)) (takenI n ls key) := by omega
      rw [e1]
theorem scan_day (ls : List Ls) (key : Int) {n k : Nat} (h : k ≤ n) : scanI ls key n (n - k) = expI n ls key k := by
  rw [scan_eq ls key n (n - k) (by omega)]
  congr 1
  omega
theorem scan_yes {ls : List Ls} {key : Int} {n j : Nat} (h : hadB ls key ((n : Int) - 1 - j) = true) : scanI ls key n (j + 1) = (n : Int) - 1 - j := by
  unfold scanI
  rw [if_pos h]
theorem scan_no {ls : List Ls} {key : Int} {n j : Nat} (h : hadB ls key ((n : Int) - 1 - j) = false) : scanI ls key n (j + 1) = scanI ls key n j := by
  rw [scanI, if_neg (by rw [h]; simp)]
theorem exposed_at {b : Bk} {ls : List Ls} {k : Nat} {key : Int} (h : b.ds[k]? = some key) : (exposedL b ls)[k]? = some (expI b.ds.length ls key k) := by
  have := mapI_at (expI b.ds.length ls) 0 b.ds k key h
  rw [Nat.zero_add] at this
  exact this

set_option maxRecDepth 100000 in
set_option maxHeartbeats 1500000 in
theorem RExposed_any (v1 v2 v : Value) (b : Bk) (ls : List Ls) (w : World) (hL : BookAt w v1 v2 b) (hl : RowsAt w v 2 Ls.cells ls) :
    Calls Try.prog 33 #[.agg #[iv b.n, iv b.w, v1, v2], v] w fun e w' => ∃ u, e = .returned u ∧ IntsAt w' u (exposedL b ls) ∧ Below w.heap.size w w' := by
  obtain ⟨i0, hi0, hz0, hz1, hz2⟩ := info_parts int_info
  obtain ⟨hk8, A1, cap1, rfl, _, _⟩ := hL.ks.form
  obtain ⟨hd8, A2, cap2, rfl, _, _⟩ := hL.ds.form
  have HL := Lib.hid hL
  have HV := Lib.hid hl
  clear hL hl
  have N0 := Lib.hid (Box.new (w := w) (t := 25) (cs := #[iv b.n, iv b.w, .slice A1 b.ks.length cap1, .slice A2 b.ds.length cap2]) rfl)
  have hB0 := Lib.hid (up_alloc (up0 (w := w)) (.cells #[iv b.n, iv b.w, .slice A1 b.ks.length cap1, .slice A2 b.ds.length cap2] 25))
  go_enter Try.func33, Try.ntmps33
  go_wp2_with fail
  go_loopw [5, 6] (fun u i wr => ∃ k : Nat, k ≤ b.ds.length ∧ i = .int .i64 k ∧ Hid (wr.ownsRow w.heap.size 3 1 u k (((exposedL b ls).take k).map iv)) ∧ Hid (Box wr w.heap.size 25 #[iv b.n, iv b.w, .slice A1 b.ks.length cap1, .slice A2 b.ds.length cap2]) ∧ Hid (Below w.heap.size w wr)) (fun _ i _ => b.ds.length - (intOf i).toNat)
  case atStart => exact ⟨0, by omega, rfl, World.ownsRow_nil _ _ _ _, N0.out, hB0.out⟩
  case round =>
    clear N0 hB0
    obtain ⟨k, hk, rfl, HO, B1, HB⟩ := hrel
    have hszB := HB.out.size
    have N := B1.out
    have cN := fun i => N.cell i
    have k0 : (0 : Int) ≤ (k : Int) := by omega
    by_cases hlt : k < b.ds.length
    · obtain ⟨x, hx⟩ : ∃ x, b.ds[k]? = some x := ⟨_, List.getElem?_eq_getElem hlt⟩
      have k1 : (k : Int) < (b.ds.length : Int) := by omega
      have Hx := Lib.hid hx
      obtain ⟨Au, pu, rfl⟩ := own_form' HO.out
      clear hx
      go_wp2_with fail
      clear cN N
      go_loopw [7, 8] (fun f d wi => ∃ j : Nat, j ≤ b.ds.length - k ∧ d = .int .i64 ((b.ds.length : Int) - 1 - j) ∧ f = .int .i64 (scanI ls x b.ds.length j) ∧ Hid (wi.ownsRow w.heap.size 3 1 (.slice Au k pu) k (((exposedL b ls).take k).map iv)) ∧ Hid (Box wi w.heap.size 25 #[iv b.n, iv b.w, .slice A1 b.ks.length cap1, .slice A2 b.ds.length cap2]) ∧ Hid (Below w.heap.size w wi)) (fun _ d _ => (intOf d + 1).toNat)
      case atStart => exact ⟨0, by omega, congrArg (Value.int .i64) (by omega), rfl, HO.out, B1.out, HB.out⟩
      case round =>
        clear HO B1 HB hszB
        obtain ⟨j, hj, rfl, rfl, HO, B1, HB⟩ := hrel
        have N := B1.out
        have cN := fun i => N.cell i
        by_cases hjl : j < b.ds.length - k
        · have hge : (k : Int) ≤ (b.ds.length : Int) - 1 - j := by omega
          have HR := Lib.hid (HL.out.ds.kept HB.out)
          obtain ⟨b1, o1, rfl, _, _⟩ := HR.out.at rfl Hx.out
          have q0 : wr.cell? ⟨b1, o1 + k, none⟩ = some (.int .i64 x) := by simpa using HR.out.cellAt Hx.out (j := 0) rfl
          go_wp2_with fail
          refine (Had_any _ ls x ((b.ds.length : Int) - 1 - j) _ (HV.out.kept HB.out)).mono ?_
          rintro e w1 ⟨rfl, hb⟩
          cases hh : hadB ls x ((b.ds.length : Int) - 1 - j) with
          | true =>
            have Hs := Lib.hid (scan_yes hh)
            clear hh
            go_wp2_with fail
            go_roundw
            case rel => exact ⟨j + 1, by omega, congrArg (Value.int .i64) (by omega), by rw [Hs.out], own_below HO.out hb, N.kept hb, up_later HB.out hb⟩
            case measure => simp [intOf]; omega
          | false =>
            have Hs := Lib.hid (scan_no hh)
            clear hh
            go_wp2_with fail
            go_roundw
            case rel => exact ⟨j + 1, by omega, congrArg (Value.int .i64) (by omega), by rw [Hs.out], own_below HO.out hb, N.kept hb, up_later HB.out hb⟩
            case measure => simp [intOf]; omega
        · have hjl' : j = b.ds.length - k := by omega
          have hge : ¬ (k : Int) ≤ (b.ds.length : Int) - 1 - j := by omega
          have He := Lib.hid (exposed_at (ls := ls) Hx.out)
          have Hsc := Lib.hid (show scanI ls x b.ds.length j = expI b.ds.length ls x k by rw [hjl']; exact scan_day ls x (by omega))
          have hszB := HB.out.size
          clear hjl'
          go_wp2_with (at_builtin; refine wpList_append_own_at _ rfl (.tmp 34) (.tmp 36) 23 rfl w.heap.size 3 i0 _ 1 8 Try.underlying23 hi0 hz0 hz1 hz2 rfl (by decide) _ _ _ rfl (HO.out.alloc _) ⟨wr.heap.size, 0, none⟩ 1 1 [iv (scanI ls x b.ds.length j)] rfl rfl (cell_one_new _ _ _) (by simp [Value.oneCell']) (by unfold maxLen; omega) (by omega) (by simp; omega) ?_; intro v' w3 hown' hgrow _ _)
          go_roundw
          case rel =>
            refine ⟨k + 1, by omega, by go_num, ?_, (N.alloc (.cells #[iv (scanI ls x b.ds.length j)] 3)).grown hgrow (box_not_own (N.alloc (.cells #[iv (scanI ls x b.ds.length j)] 3)) (by decide) (HO.out.alloc (.cells #[iv (scanI ls x b.ds.length j)] 3))), (up_alloc HB.out (.cells #[iv (scanI ls x b.ds.length j)] 3)).grown hgrow (by simp; omega) fun g e => ((HO.out.alloc (.cells #[iv (scanI ls x b.ds.length j)] 3)).lt g e).1⟩
            rw [List.take_add_one, He.out, ← Hsc.out, List.map_append]
            exact hown'
          case measure => simp [intOf]; omega
    · obtain rfl : k = b.ds.length := by omega
      have hel : (exposedL b ls).length = b.ds.length := by unfold exposedL; rw [mapI_len]
      have ho := HO.out
      rw [List.take_of_length_le (by omega)] at ho
      have Hel := Lib.hid hel
      have Ho := Lib.hid ho
      clear ho hel
      go_wp2_with fail
      go_ret
      exact ⟨_, rfl, ints_of_own Ho.out Hel.out.symm (by rw [Hel.out]; exact hd8), HB.out⟩
end Go.Proofs.Ytkhfkmfofhnmdaa
