/-
  WALKS of the checks of strings: 'every' over bytes and over strings, 'have', 'spell', checkSigns. Conditions: strings that are spelt have at most 1000 bytes.
-/
import Derived.Test.YtonekgefegfapaaGreatFh
import Derived.Lib.Bytealg
import Derived.Laws.IdiomStrings
namespace Go.Proofs.YtonekgefegfapaaGreat
open Go.RowKit

def bc (b : UInt8) : List Value := [.int .u8 b.toNat]
def sc (s : ByteArray) : List Value := [.string s]
set_option maxRecDepth 100000 in
set_option maxHeartbeats 1000000 in
theorem every_bytes (v : Value) (l : List UInt8) (c : Value) (p : UInt8 → Bool) (w : World) (hl : RowsAt w v 1 bc l)
    (hf : ∀ x ∈ l, ∀ w1, Below w.heap.size w w1 → Calls Tryz.prog 99 #[c, .int .u8 x.toNat] w1 fun e w2 => e = .returned (.bool (p x)) ∧ Below w1.heap.size w1 w2) :
    Calls Tryz.prog 98 #[v, .func (.func 99) #[c] #[]] w fun e w' => e = .returned (.bool (l.all p)) ∧ Below w.heap.size w w' := by
  obtain ⟨hlen, A, cap, hv, hcap, hmax⟩ := hl.form
  subst hv
  clear hcap hmax
  go_enter Tryz.func98, Tryz.ntmps98
  go_wp2
  go_loopw [9] (fun i wr => ∃ k : Nat, k ≤ l.length ∧ i = .int .i64 k ∧ Hid ((l.take k).all p = true) ∧ Below w.heap.size w wr) (fun i _ => l.length - (intOf i).toNat)
  case atStart => exact ⟨0, by omega, rfl, by simp [Hid], Below.refl _ _⟩
  case round =>
    obtain ⟨k, hk, rfl, hall, hB⟩ := hrel
    by_cases hlt : k < l.length
    · obtain ⟨x, hx⟩ : ∃ x, l[k]? = some x := ⟨_, List.getElem?_eq_getElem hlt⟩
      obtain ⟨b, off, rfl, hb, hc⟩ := (hl.kept hB).at rfl hx
      have hcall := hf x (List.mem_of_getElem? hx)
      have Hx := Lib.hid hx
      clear hx
      have q0 : wr.cell? ⟨b, off + k, none⟩ = some (.int .u8 x.toNat) := by simpa using hc 0 _ rfl
      clear hc
      cases hp : p x with
      | true =>
        have Hp := Lib.hid hp
        rw [hp] at hcall
        clear hp
        have Hf := Lib.hid hcall
        clear hcall hf
        go_wp2_with fail
        refine (Hf.out _ hB).mono ?_
        rintro e w1 ⟨rfl, hb1⟩
        go_wp2
        go_roundw
        case rel => exact ⟨k + 1, by omega, by go_num, all_take_succ Hx.out hall.out Hp.out, up_later hB hb1⟩
        case measure => simp [intOf]; omega
      | false =>
        have Hp := Lib.hid hp
        rw [hp] at hcall
        clear hp
        have Hf := Lib.hid hcall
        clear hcall hf
        go_wp2_with fail
        refine (Hf.out _ hB).mono ?_
        rintro e w1 ⟨rfl, hb1⟩
        go_wp2
        go_ret
        exact ⟨ret_bool (all_false Hx.out Hp.out).symm, up_later hB hb1⟩
    · go_wp2
      go_ret
      exact ⟨ret_bool (by have h := hall.out; rw [List.take_of_length_le (by omega)] at h; exact h.symm), hB⟩
set_option maxRecDepth 100000 in
set_option maxHeartbeats 1000000 in
theorem every_spell (v : Value) (l : List ByteArray) (c : Value) (p : ByteArray → Bool) (w : World) (hl : RowsAt w v 1 sc l)
    (hf : ∀ x ∈ l, ∀ w1, Below w.heap.size w w1 → Calls Tryz.prog 75 #[c, .string x] w1 fun e w2 => e = .returned (.bool (p x)) ∧ Below w1.heap.size w1 w2) :
    Calls Tryz.prog 74 #[v, .func (.func 75) #[c] #[]] w fun e w' => e = .returned (.bool (l.all p)) ∧ Below w.heap.size w w' := by
  obtain ⟨hlen, A, cap, hv, hcap, hmax⟩ := hl.form
  subst hv
  clear hcap hmax
  go_enter Tryz.func74, Tryz.ntmps74
  go_wp2
  go_loopw [9] (fun i wr => ∃ k : Nat, k ≤ l.length ∧ i = .int .i64 k ∧ Hid ((l.take k).all p = true) ∧ Below w.heap.size w wr) (fun i _ => l.length - (intOf i).toNat)
  case atStart => exact ⟨0, by omega, rfl, by simp [Hid], Below.refl _ _⟩
  case round =>
    obtain ⟨k, hk, rfl, hall, hB⟩ := hrel
    by_cases hlt : k < l.length
    · obtain ⟨x, hx⟩ : ∃ x, l[k]? = some x := ⟨_, List.getElem?_eq_getElem hlt⟩
      obtain ⟨b, off, rfl, hb, hc⟩ := (hl.kept hB).at rfl hx
      have hcall := hf x (List.mem_of_getElem? hx)
      have Hx := Lib.hid hx
      clear hx
      have q0 : wr.cell? ⟨b, off + k, none⟩ = some (.string x) := by simpa using hc 0 _ rfl
      clear hc
      cases hp : p x with
      | true =>
        have Hp := Lib.hid hp
        rw [hp] at hcall
        clear hp
        have Hf := Lib.hid hcall
        clear hcall hf
        go_wp2_with fail
        refine (Hf.out _ hB).mono ?_
        rintro e w1 ⟨rfl, hb1⟩
        go_wp2
        go_roundw
        case rel => exact ⟨k + 1, by omega, by go_num, all_take_succ Hx.out hall.out Hp.out, up_later hB hb1⟩
        case measure => simp [intOf]; omega
      | false =>
        have Hp := Lib.hid hp
        rw [hp] at hcall
        clear hp
        have Hf := Lib.hid hcall
        clear hcall hf
        go_wp2_with fail
        refine (Hf.out _ hB).mono ?_
        rintro e w1 ⟨rfl, hb1⟩
        go_wp2
        go_ret
        exact ⟨ret_bool (all_false Hx.out Hp.out).symm, up_later hB hb1⟩
    · go_wp2
      go_ret
      exact ⟨ret_bool (by have h := hall.out; rw [List.take_of_length_le (by omega)] at h; exact h.symm), hB⟩
set_option maxRecDepth 100000 in
set_option maxHeartbeats 1000000 in
theorem every_fits (v : Value) (l : List ByteArray) (_c : Value) (p : ByteArray → Bool) (w : World) (hl : RowsAt w v 1 sc l)
    (hf : ∀ x ∈ l, ∀ w1, Below w.heap.size w w1 → Calls Tryz.prog 83 #[.string x] w1 fun e w2 => e = .returned (.bool (p x)) ∧ Below w1.heap.size w1 w2) :
    Calls Tryz.prog 74 #[v, .func (.func 83) #[] #[]] w fun e w' => e = .returned (.bool (l.all p)) ∧ Below w.heap.size w w' := by
  obtain ⟨hlen, A, cap, hv, hcap, hmax⟩ := hl.form
  subst hv
  clear hcap hmax
  go_enter Tryz.func74, Tryz.ntmps74
  go_wp2
  go_loopw [9] (fun i wr => ∃ k : Nat, k ≤ l.length ∧ i = .int .i64 k ∧ Hid ((l.take k).all p = true) ∧ Below w.heap.size w wr) (fun i _ => l.length - (intOf i).toNat)
  case atStart => exact ⟨0, by omega, rfl, by simp [Hid], Below.refl _ _⟩
  case round =>
    obtain ⟨k, hk, rfl, hall, hB⟩ := hrel
    by_cases hlt : k < l.length
    · obtain ⟨x, hx⟩ : ∃ x, l[k]? = some x := ⟨_, List.getElem?_eq_getElem hlt⟩
      obtain ⟨b, off, rfl, hb, hc⟩ := (hl.kept hB).at rfl hx
      have hcall := hf x (List.mem_of_getElem? hx)
      have Hx := Lib.hid hx
      clear hx
      have q0 : wr.cell? ⟨b, off + k, none⟩ = some (.string x) := by simpa using hc 0 _ rfl
      clear hc
      cases hp : p x with
      | true =>
        have Hp := Lib.hid hp
        rw [hp] at hcall
        clear hp
        have Hf := Lib.hid hcall
        clear hcall hf
        go_wp2_with fail
        refine (Hf.out _ hB).mono ?_
        rintro e w1 ⟨rfl, hb1⟩
        go_wp2
        go_roundw
        case rel => exact ⟨k + 1, by omega, by go_num, all_take_succ Hx.out hall.out Hp.out, up_later hB hb1⟩
        case measure => simp [intOf]; omega
      | false =>
        have Hp := Lib.hid hp
        rw [hp] at hcall
        clear hp
        have Hf := Lib.hid hcall
        clear hcall hf
        go_wp2_with fail
        refine (Hf.out _ hB).mono ?_
        rintro e w1 ⟨rfl, hb1⟩
        go_wp2
        go_ret
        exact ⟨ret_bool (all_false Hx.out Hp.out).symm, up_later hB hb1⟩
    · go_wp2
      go_ret
      exact ⟨ret_bool (by have h := hall.out; rw [List.take_of_length_le (by omega)] at h; exact h.symm), hB⟩
set_option maxRecDepth 100000 in
set_option maxHeartbeats 1000000 in
theorem every_fitc (v : Value) (l : List ByteArray) (_c : Value) (p : ByteArray → Bool) (w : World) (hl : RowsAt w v 1 sc l)
    (hf : ∀ x ∈ l, ∀ w1, Below w.heap.size w w1 → Calls Tryz.prog 73 #[.string x] w1 fun e w2 => e = .returned (.bool (p x)) ∧ Below w1.heap.size w1 w2) :
    Calls Tryz.prog 74 #[v, .func (.func 73) #[] #[]] w fun e w' => e = .returned (.bool (l.all p)) ∧ Below w.heap.size w w' := by
  obtain ⟨hlen, A, cap, hv, hcap, hmax⟩ := hl.form
  subst hv
  clear hcap hmax
  go_enter Tryz.func74, Tryz.ntmps74
  go_wp2
  go_loopw [9] (fun i wr => ∃ k : Nat, k ≤ l.length ∧ i = .int .i64 k ∧ Hid ((l.take k).all p = true) ∧ Below w.heap.size w wr) (fun i _ => l.length - (intOf i).toNat)
  case atStart => exact ⟨0, by omega, rfl, by simp [Hid], Below.refl _ _⟩
  case round =>
    obtain ⟨k, hk, rfl, hall, hB⟩ := hrel
    by_cases hlt : k < l.length
    · obtain ⟨x, hx⟩ : ∃ x, l[k]? = some x := ⟨_, List.getElem?_eq_getElem hlt⟩
      obtain ⟨b, off, rfl, hb, hc⟩ := (hl.kept hB).at rfl hx
      have hcall := hf x (List.mem_of_getElem? hx)
      have Hx := Lib.hid hx
      clear hx
      have q0 : wr.cell? ⟨b, off + k, none⟩ = some (.string x) := by simpa using hc 0 _ rfl
      clear hc
      cases hp : p x with
      | true =>
        have Hp := Lib.hid hp
        rw [hp] at hcall
        clear hp
        have Hf := Lib.hid hcall
        clear hcall hf
        go_wp2_with fail
        refine (Hf.out _ hB).mono ?_
        rintro e w1 ⟨rfl, hb1⟩
        go_wp2
        go_roundw
        case rel => exact ⟨k + 1, by omega, by go_num, all_take_succ Hx.out hall.out Hp.out, up_later hB hb1⟩
        case measure => simp [intOf]; omega
      | false =>
        have Hp := Lib.hid hp
        rw [hp] at hcall
        clear hp
        have Hf := Lib.hid hcall
        clear hcall hf
        go_wp2_with fail
        refine (Hf.out _ hB).mono ?_
        rintro e w1 ⟨rfl, hb1⟩
        go_wp2
        go_ret
        exact ⟨ret_bool (all_false Hx.out Hp.out).symm, up_later hB hb1⟩
    · go_wp2
      go_ret
      exact ⟨ret_bool (by have h := hall.out; rw [List.take_of_length_le (by omega)] at h; exact h.symm), hB⟩
set_option maxHeartbeats 1000000 in
set_option maxRecDepth 100000 in
theorem IndexByte_lib (s : ByteArray) (c : Int) (w : World) : Calls Tryz.prog 138 #[.string s, .int .u8 c] w fun e w' => e = .returned (.int .i64 (Lib.indexByte s.data.toList c.toNat.toUInt8)) ∧ w' = w := by
  go_enter Tryz.func138, Tryz.ntmps138
  go_wp2
  rw [run_callFunc_extern Tryz.func146 (by kernel_rfl) (by kernel_rfl) (by kernel_rfl) (e := Extern.BytealgIndexByte.indexByte) (by kernel_rfl), Lib.run_indexByteString]
  simp only [Result.andThen]
  rw [Oper.upon_value]
  go_wp2
  go_ret
  exact ⟨rfl, rfl⟩
set_option maxHeartbeats 400000 in
theorem IndexByte_any (s : ByteArray) (c : Int) (w : World) : Calls Tryz.prog 122 #[.string s, .int .u8 c] w fun e w' => e = .returned (.int .i64 (Lib.indexByte s.data.toList c.toNat.toUInt8)) ∧ w' = w := by
  go_enter Tryz.func122, Tryz.ntmps122
  go_wp2_with (go_at_call 138; refine (IndexByte_lib _ _ _).mono ?_; rintro e w' ⟨rfl, rfl⟩)
  go_ret
  exact ⟨rfl, rfl⟩
/-- A byte is one of the marks. -/
def hasB (m : By) (c : UInt8) : Bool := decide (0 ≤ Lib.indexByte m c)
set_option maxRecDepth 100000 in
set_option maxHeartbeats 400000 in
theorem have_any (m : ByteArray) (b : UInt8) (w : World) : Calls Tryz.prog 99 #[.string m, .int .u8 b.toNat] w fun e w' => e = .returned (.bool (hasB m.data.toList b)) ∧ Below w.heap.size w w' := by
  have hx : ((b.toNat : Int)).toNat.toUInt8 = b := by simp
  obtain ⟨k, hk⟩ : ∃ k, Lib.indexByte m.data.toList b = k := ⟨_, rfl⟩
  have Hk := Lib.hid (show hasB m.data.toList b = decide (0 ≤ k) by unfold hasB; rw [hk])
  go_enter Tryz.func99, Tryz.ntmps99
  go_wp2_with fail
  refine (IndexByte_any _ _ _).mono ?_
  rintro e w' ⟨rfl, rfl⟩
  rw [hx, hk]
  clear hx hk
  go_wp2_with fail
  go_ret
  exact ⟨ret_bool Hk.out.symm, up0⟩
theorem bytes_rows (s : ByteArray) (w : World) (cap : Nat) (fz : Nat × Nat) (hc : s.size ≤ cap) (hm : cap ≤ 9223372036854775807) (hs : s.size ≤ 1000) : RowsAt ((w.alloc (.cells (bytesRow s cap) 5 fz)).drew) (.slice (some ⟨w.heap.size, 0, none⟩) s.size cap) 1 bc s.data.toList := by
  have hls : s.data.toList.length = s.size := (Lib.size_eq s).symm
  refine ⟨by omega, _, cap, by rw [hls], by omega, hm, fun _ => ⟨w.heap.size, 0, rfl, by simp, fun i x hx j u hu => ?_⟩⟩
  have h0 : ((w.alloc (.cells (bytesRow s cap) 5 fz)).drew).heap[w.heap.size]? = some (.cells (bytesRow s cap) 5 fz) := heap_alloc_last w _
  rcases j with _ | j
  · obtain rfl : u = .int .u8 x.toNat := by simpa [bc] using hu.symm
    rw [cell_of_row _ _ _ _ _ _ h0]
    have hi : i < s.data.toList.length := (List.getElem?_eq_some_iff.1 hx).1
    unfold bytesRow
    rw [Array.getElem?_append_left (by simp at hi ⊢; omega)]
    simp at hx ⊢
    exact ⟨x, hx, rfl⟩
  · simp [bc] at hu
set_option maxRecDepth 100000 in
set_option maxHeartbeats 1000000 in
theorem spell_any (m s : ByteArray) (w : World) (hs : s.size ≤ 1000) : Calls Tryz.prog 75 #[.string m, .string s] w fun e w' => e = .returned (.bool (s.data.toList.all (hasB m.data.toList))) ∧ Below w.heap.size w w' := by
  go_enter Tryz.func75, Tryz.ntmps75
  have hcv := fun w => run_bytes_of_string (P := Tryz.prog) w 9 65 5 s Tryz.underlying9 Tryz.underlying65 Tryz.underlying5
  go_wp2_with fail
  have hge := grownCap_ge w s.size 0 5
  have hle := grownCap_le_maxLen w s.size 0 5 (by unfold maxLen; omega)
  refine (every_bytes _ s.data.toList (.string m) (hasB m.data.toList) _ (bytes_rows s w _ _ hge (by unfold maxLen at hle; omega) hs) (fun x _ w1 _ => have_any m x w1)).mono ?_
  rintro e w1 ⟨rfl, hb⟩
  obtain ⟨B, hB⟩ : ∃ B, s.data.toList.all (hasB m.data.toList) = B := ⟨_, rfl⟩
  rw [hB]
  have HB := Lib.hid hB
  clear hcv hB
  go_wp2_with fail
  go_ret
  exact ⟨by rw [HB.out]; rfl, up_later (up_drew (up_alloc up0 _)) hb⟩
set_option maxHeartbeats 400000 in
theorem checkSigns1_any (s : ByteArray) (w : World) : Calls Tryz.prog 83 #[.string s] w fun e w' => e = .returned (.bool (decide (s.size ≤ 40))) ∧ Below w.heap.size w w' := by
  go_enter Tryz.func83, Tryz.ntmps83
  go_wp2_with fail
  go_ret
  exact ⟨ret_bool (by rw [decide_eq_decide]; omega), up0⟩
/-- A byte is a sign. -/
def signB (b : UInt8) : Bool := hasB [46, 45, 32] b
/-- The error of strings of signs. -/
def signsE (l : List ByteArray) : Int := if l.all (fun s => decide (s.size ≤ 40)) = false then 3 else if l.all (fun s => s.data.toList.all signB) = false then 4 else 0
set_option maxRecDepth 100000 in
set_option maxHeartbeats 1000000 in
theorem checkSigns_any (v : Value) (l : List ByteArray) (w : World) (hl : RowsAt w v 1 sc l) : Calls Tryz.prog 64 #[v] w fun e w' => e = .returned (.int .i64 (signsE l)) ∧ Below w.heap.size w w' := by
  have HL := Lib.hid hl
  clear hl
  cases h1 : l.all (fun s => decide (s.size ≤ 40)) with
  | false =>
    have H1 := Lib.hid h1
    have Hr := Lib.hid (show signsE l = 3 by unfold signsE; rw [if_pos h1])
    clear h1
    go_enter Tryz.func64, Tryz.ntmps64
    go_wp2_with fail
    refine (every_fits _ l (iv 0) (fun s => decide (s.size ≤ 40)) _ HL.out (fun x _ w1 _ => checkSigns1_any x w1)).mono ?_
    rintro e w1 ⟨rfl, hb⟩
    rw [H1.out]
    go_wp2_with fail
    go_ret
    exact ⟨by rw [Hr.out]; rfl, hb⟩
  | true =>
    have H1 := Lib.hid h1
    have h40 : ∀ x ∈ l, x.size ≤ 1000 := fun x hx => by
      have := List.all_eq_true.1 h1 x hx
      simp at this
      omega
    cases h2 : l.all (fun s => s.data.toList.all signB) with
    | false =>
      have H2 := Lib.hid h2
      have Hr := Lib.hid (show signsE l = 4 by unfold signsE; rw [h1, h2]; rfl)
      clear h1 h2
      go_enter Tryz.func64, Tryz.ntmps64
      go_wp2_with fail
      refine (every_fits _ l (iv 0) (fun s => decide (s.size ≤ 40)) _ HL.out (fun x _ w1 _ => checkSigns1_any x w1)).mono ?_
      rintro e w1 ⟨rfl, hb⟩
      rw [H1.out]
      go_wp2_with fail
      refine (every_spell _ l (.string ⟨#[46, 45, 32]⟩) (fun s => s.data.toList.all signB) _ (HL.out.kept hb) (fun x hx w2 _ => spell_any ⟨#[46, 45, 32]⟩ x w2 (h40 x hx))).mono ?_
      rintro e w2 ⟨rfl, hb2⟩
      rw [H2.out]
      go_wp2_with fail
      go_ret
      exact ⟨by rw [Hr.out]; rfl, up_later hb hb2⟩
    | true =>
      have H2 := Lib.hid h2
      have Hr := Lib.hid (show signsE l = 0 by unfold signsE; rw [h1, h2]; rfl)
      clear h1 h2
      go_enter Tryz.func64, Tryz.ntmps64
      go_wp2_with fail
      refine (every_fits _ l (iv 0) (fun s => decide (s.size ≤ 40)) _ HL.out (fun x _ w1 _ => checkSigns1_any x w1)).mono ?_
      rintro e w1 ⟨rfl, hb⟩
      rw [H1.out]
      go_wp2_with fail
      refine (every_spell _ l (.string ⟨#[46, 45, 32]⟩) (fun s => s.data.toList.all signB) _ (HL.out.kept hb) (fun x hx w2 _ => spell_any ⟨#[46, 45, 32]⟩ x w2 (h40 x hx))).mono ?_
      rintro e w2 ⟨rfl, hb2⟩
      rw [H2.out]
      go_wp2_with fail
      go_ret
      exact ⟨by rw [Hr.out]; rfl, up_later hb hb2⟩
end Go.Proofs.YtonekgefegfapaaGreat
