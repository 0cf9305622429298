/-
  WALKS of slices.Clone, slices.IndexFunc, slices.DeleteFunc over numbers (whether one is a null), '(desk).words'. Conditions: at most 1000 numbers.
-/
import Derived.Test.YtkhfkmfofhnmdaaCm
import Derived.Laws.Cover3
namespace Go.Proofs.Ytkhfkmfofhnmdaa
open Go.RowKit

theorem grown_tr {a b c : World} {row : Option Nat} (h : a.grownBy b row) (k : b.grownBy c row) : a.grownBy c row :=
  ⟨k.os.trans h.os, k.tape.trans h.tape, k.output.trans h.output, Nat.le_trans h.size k.size, fun i hi hn => (k.block i (Nat.lt_of_lt_of_le hi h.size) hn).trans (h.block i hi hn)⟩
theorem grown_row {a b : World} {row : Option Nat} (h : a.grownBy b none) : a.grownBy b row := ⟨h.os, h.tape, h.output, h.size, fun i hi _ => h.block i hi (by simp)⟩
theorem grown_re (w : World) (row : Option Nat) : w.grownBy w row := ⟨rfl, rfl, rfl, Nat.le_refl _, fun _ _ _ => rfl⟩
def setFrom : List Value → Nat → List Value → List Value
  | xs, _, [] => xs
  | xs, o, v :: r => setFrom (xs.set o v) (o + 1) r
theorem setFrom_take : ∀ (vs xs : List Value) (o : Nat), (setFrom xs o vs).take o = xs.take o
  | [], _, _ => rfl
  | v :: r, xs, o => by
    have h := setFrom_take r (xs.set o v) (o + 1)
    have h2 := congrArg (List.take o) h
    rw [List.take_take, List.take_take, Nat.min_eq_left (by omega)] at h2
    rw [setFrom, h2, List.take_set_of_le (Nat.le_refl _)]
theorem own_setCells {n0 e sz k b m cap : Nat} : ∀ (vs : List Value) (o : Nat) (w : World) (xs : List Value), w.ownsRow n0 e sz (.slice (some ⟨b, 0, none⟩) m cap) k xs → (w.setCells b o vs).ownsRow n0 e sz (.slice (some ⟨b, 0, none⟩) m cap) k (setFrom xs o vs) ∧ w.grownBy (w.setCells b o vs) (some b)
  | [], _, w, _, h => ⟨h, grown_re _ _⟩
  | v :: r, o, w, xs, h => by
    have h1 := (own_put (i := o) (u := v) h).2.2
    obtain ⟨h2, h3⟩ := own_setCells r (o + 1) _ _ h1
    exact ⟨h2, grown_tr (grownBy_set _ _ _ _) h3⟩

set_option maxRecDepth 100000 in
set_option maxHeartbeats 1000000 in
theorem Clone_any (v : Value) (l : List Int) (w : World) (hl : IntsAt w v l) :
    Calls Try.prog 98 #[v] w fun e w' => ∃ v', e = .returned v' ∧ w'.ownsRow w.heap.size 3 1 v' l.length (l.map iv) ∧ Below w.heap.size w w' := by
  obtain ⟨i0, hi0, hz0, hz1, hz2⟩ := info_parts int_info
  obtain ⟨hlen, A, cap, rfl, hcap, _⟩ := hl.form
  have HV := Lib.hid hl
  have hnilT : ∀ (a : Option Addr) (m c : Nat) (w : World), (binOp BinOp.eql 23 (.slice a m c) (.slice none 0 0)).run Try.prog w = .ok (.bool a.isNone) w := fun a m c w => by
    simp only [binOp]
    simp [run_equal_slice_nil w 23 3 a m c Try.underlying23]
  cases A with
  | none =>
    have hnil : l = [] := by
      rcases l with _ | ⟨a, l⟩
      · rfl
      · obtain ⟨_, _, h, _⟩ := hl.at (i := 0) rfl rfl
        cases h
    subst hnil
    clear hl
    go_enter Try.func98, Try.ntmps98
    go_wp2_with (simp only [hnilT])
    go_ret
    exact ⟨_, rfl, World.ownsRow_nil _ _ _ _, up0⟩
  | some a =>
    clear hl
    go_enter Try.func98, Try.ntmps98
    go_wp2_with (first | simp only [hnilT] | at_builtin; refine wpList_append_rows rfl (.tmp 5) (.tmp 6) 23 rfl w.heap.size 3 i0 _ 1 8 Try.underlying23 hi0 hz0 hz1 hz2 rfl (by decide) _ _ _ rfl (World.ownsRow_made w #[] 0 (Nat.le_refl _) (by decide) (by simp)) ic l _ rfl (HV.out.kept (up_alloc up0 _)) (fun _ => rfl) (by simp [ic, Value.oneCell']) (by unfold maxLen; omega) (by omega) (by simp) ?_; intro v' w' hown' hgrow _)
    go_ret
    rw [flat_ic, List.nil_append, Nat.zero_add] at hown'
    exact ⟨v', by simp [go_sem], hown', (up_alloc up0 _).grown hgrow (by simp) (fun k hk => Nat.le_of_eq (by simpa [Value.ownBlock, Act.eval] using hk))⟩

def nullB (ws x : Int) : Bool := decide (ws ≤ x)

set_option maxRecDepth 100000 in
set_option maxHeartbeats 1000000 in
theorem IndexFunc_any (n ws : Int) (v1 v2 v : Value) (l : List Int) (w : World) (hl : IntsAt w v l) :
    Calls Try.prog 112 #[v, .func (.func 99) #[.agg #[iv n, iv ws, v1, v2]] #[]] w fun e w' =>
      ((e = .returned (.int .i64 (-1)) ∧ l.all (fun x => !nullB ws x) = true) ∨ ∃ k : Nat, e = .returned (.int .i64 k) ∧ k < l.length ∧ (l.take k).all (fun x => !nullB ws x) = true ∧ ∃ x, l[k]? = some x ∧ nullB ws x = true) ∧ Below w.heap.size w w' := by
  obtain ⟨hlen, A, cap, rfl, hcap, _⟩ := hl.form
  have HV := Lib.hid hl
  clear hl
  go_enter Try.func112, Try.ntmps112
  go_wp2_with fail
  go_loopw [8] (fun i wr => ∃ k : Nat, k ≤ l.length ∧ i = .int .i64 k ∧ Hid ((l.take k).all (fun x => !nullB ws x) = true) ∧ Below w.heap.size w wr) (fun i _ => l.length - (intOf i).toNat)
  case atStart => exact ⟨0, by omega, rfl, by simp [Hid], Below.refl _ _⟩
  case round =>
    obtain ⟨k, hk, rfl, hall, hB⟩ := hrel
    by_cases hlt : k < l.length
    · obtain ⟨x, hx⟩ : ∃ x, l[k]? = some x := ⟨_, List.getElem?_eq_getElem hlt⟩
      obtain ⟨b, off, rfl, hb, hc⟩ := (HV.out.kept hB).at rfl hx
      have Hx := Lib.hid hx
      have q0 : wr.cell? ⟨b, off + k, none⟩ = some (.int .i64 x) := by simpa using hc 0 _ rfl
      have k0 : (0 : Int) ≤ (k : Int) := by omega
      have k1 : (k : Int) < (l.length : Int) := by omega
      clear hc hx
      by_cases hp : ws ≤ x
      · go_wp2_with fail
        refine (isNull_any _ _ _ _ x _).mono ?_
        rintro e w1 ⟨rfl, hb1⟩
        go_wp2_with fail
        go_ret
        exact ⟨.inr ⟨k, rfl, hlt, hall.out, x, Hx.out, by simp [nullB, hp]⟩, up_later hB hb1⟩
      · go_wp2_with fail
        refine (isNull_any _ _ _ _ x _).mono ?_
        rintro e w1 ⟨rfl, hb1⟩
        go_wp2_with fail
        go_roundw
        case rel => exact ⟨k + 1, by omega, by go_num, all_take_succ Hx.out hall.out (by simp [nullB]; omega), up_later hB hb1⟩
        case measure => simp [intOf]; omega
    · go_wp2_with fail
      go_ret
      exact ⟨.inl ⟨rfl, by have h := hall.out; rwa [List.take_of_length_le (by omega)] at h⟩, hB⟩

/-- What 'DeleteFunc' has done: the first i are those of the first j that stay, and those from j on lie as they lay. -/
structure Moved (ws : Int) (l xs : List Int) (i j : Nat) : Prop where
  len : xs.length = l.length
  lt : i < j
  le : j ≤ l.length
  done : xs.take i = (l.take j).filter fun x => !nullB ws x
  rest : ∀ m, j ≤ m → xs[m]? = l[m]?
theorem Moved.skip {ws x : Int} {l xs : List Int} {i j : Nat} (h : Moved ws l xs i j) (hx : l[j]? = some x) (hn : nullB ws x = true) : Moved ws l xs i (j + 1) :=
  ⟨h.len, by have := h.lt; omega, (List.getElem?_eq_some_iff.1 hx).1, by
    rw [h.done, List.take_add_one, hx, List.filter_append]
    simp [hn], fun m hm => h.rest m (by omega)⟩
theorem Moved.keep {ws x : Int} {l xs : List Int} {i j : Nat} (h : Moved ws l xs i j) (hx : l[j]? = some x) (hn : nullB ws x = false) : Moved ws l (xs.set i x) (i + 1) (j + 1) := by
  have h1 := h.lt
  have h2 := h.le
  have h3 := h.len
  refine ⟨by rw [List.length_set]; exact h.len, by omega, (List.getElem?_eq_some_iff.1 hx).1, ?_, fun m hm => ?_⟩
  · rw [List.take_add_one, List.take_set_of_le (Nat.le_refl _), h.done, List.take_add_one, hx, List.filter_append, List.getElem?_set_self (by omega)]
    simp [hn]
  · rw [List.getElem?_set_ne (by omega)]
    exact h.rest m (by omega)
theorem zero3 (w : World) : (zeroValue 3).run Try.prog w = .ok (.int .i64 0) w := by kernel_rfl

set_option maxRecDepth 100000 in
set_option maxHeartbeats 2000000 in
theorem DeleteFunc_any (n ws : Int) (v1 v2 : Value) (A : Option Addr) (cap base : Nat) (l : List Int) (w : World) (hlen : l.length ≤ 1000) (ho : w.ownsRow base 3 1 (.slice A l.length cap) l.length (l.map iv)) :
    Calls Try.prog 97 #[.slice A l.length cap, .func (.func 99) #[.agg #[iv n, iv ws, v1, v2]] #[]] w fun e w' =>
      ∃ v', e = .returned v' ∧ IntsAt w' v' (l.filter fun x => !nullB ws x) ∧ w.grownBy w' (Value.slice A l.length cap).ownBlock := by
  obtain ⟨i0, hi0, hz0, hz1, hz2⟩ := info_parts int_info
  have HO := Lib.hid ho
  clear ho
  go_enter Try.func97, Try.ntmps97
  go_wp2_with fail
  refine (IndexFunc_any n ws v1 v2 _ l w (ints_of_own HO.out rfl hlen)).mono ?_
  rintro e w1 ⟨⟨rfl, hall⟩ | ⟨k, rfl, hk, hall, x, hx, hn⟩, hb⟩
  · have HA := Lib.hid hall
    clear hall
    go_wp2_with fail
    go_ret
    refine ⟨_, rfl, ?_, grown_row (grown_of_below hb)⟩
    rw [List.filter_eq_self.2 (fun x hx => List.all_eq_true.1 HA.out x hx)]
    exact ints_of_own (own_below HO.out hb) rfl hlen
  · have hM : Moved ws l l k (k + 1) := ⟨rfl, by omega, hk, by
      rw [List.take_add_one, hx, List.filter_append, List.filter_eq_self.2 (fun x hx => List.all_eq_true.1 hall x hx)]
      simp [hn], fun _ _ => rfl⟩
    have HO1 := Lib.hid (own_below HO.out hb)
    have HM := Lib.hid hM
    have hg := grown_row (row := (Value.slice A l.length cap).ownBlock) (grown_of_below hb)
    have kn : ¬ (k : Int) = -1 := by omega
    have kn' : ((k : Int) == -1) = false := by rw [beq_eq_false_iff_ne]; omega
    obtain ⟨bs, rfl⟩ : ∃ bs, A = some ⟨bs, 0, none⟩ := by
      rcases HO.out.2 with ⟨h, h0⟩ | ⟨g, cap', cur, h, _⟩
      · omega
      · cases h; exact ⟨g, rfl⟩
    have hcap : l.length ≤ cap := by
      rcases HO.out.2 with ⟨h, h0⟩ | ⟨g, cap', cur, h, _, _, h1, _⟩
      · omega
      · cases h; exact h1
    clear hM hall hx hn hb
    go_wp2_with fail
    go_loopw [5, 6] (fun i j wr => ∃ (a c : Nat) (xs : List Int), i = .int .i64 a ∧ j = .int .i64 c ∧ Hid (Moved ws l xs a c) ∧ Hid (wr.ownsRow base 3 1 (.slice (some ⟨bs, 0, none⟩) l.length cap) l.length (xs.map iv)) ∧ w.grownBy wr (some bs)) (fun _ j _ => l.length - (intOf j).toNat)
    case atStart => exact ⟨k, k + 1, l, rfl, by go_num, HM, HO1, hg⟩
    case round =>
      clear hg HM HO1 kn kn' hk
      obtain ⟨a, c, xs, rfl, rfl, HM, HO1, hg⟩ := hrel
      have ha := HM.out.lt
      have hc := HM.out.le
      have a0 : (0 : Int) ≤ (a : Int) := by omega
      have a1 : (a : Int) < (l.length : Int) := by omega
      have c0 : (0 : Int) ≤ (c : Int) := by omega
      by_cases hlt : c < l.length
      · obtain ⟨x, hx⟩ : ∃ x, l[c]? = some x := ⟨_, List.getElem?_eq_getElem hlt⟩
        have q0 : wr.cell? ⟨bs, c, none⟩ = some (.int .i64 x) := own_cell HO1.out (by rw [List.getElem?_map, HM.out.rest c (Nat.le_refl _), hx]; rfl)
        have HX := Lib.hid hx
        clear hx
        have c1 : (c : Int) < (l.length : Int) := by omega
        by_cases hp : ws ≤ x
        · go_wp2_with fail
          refine (isNull_any _ _ _ _ x _).mono ?_
          rintro e w2 ⟨rfl, hb1⟩
          go_wp2_with fail
          go_roundw
          case rel => exact ⟨a, c + 1, xs, rfl, by go_num, HM.out.skip HX.out (by simp [nullB, hp]), own_below HO1.out hb1, grown_tr hg (grown_row (grown_of_below hb1))⟩
          case measure => simp [intOf]; omega
        · have Hd := Lib.hid (decide_eq_false hp)
          go_wp2_with fail
          refine (isNull_any _ _ _ _ x _).mono ?_
          rintro e w2 ⟨rfl, hb1⟩
          rw [Hd.out]
          have HO2 := Lib.hid (own_below HO1.out hb1)
          obtain ⟨y, hy⟩ : ∃ y, xs[a]? = some y := ⟨_, List.getElem?_eq_getElem (by have := HM.out.len; omega)⟩
          have q1 : w2.cell? ⟨bs, a, none⟩ = some (.int .i64 y) := own_cell HO2.out (by rw [List.getElem?_map, hy]; rfl)
          have f1 : w2.frozen? ⟨bs, a, none⟩ = false := own_free HO2.out
          have l1 : bs < w2.heap.size := (HO2.out.lt bs rfl).2
          clear hy
          go_wp2_with fail
          go_roundw
          case rel =>
            refine ⟨a + 1, c + 1, xs.set a x, by go_num, by go_num, HM.out.keep HX.out (by simp [nullB]; omega), ?_, grown_tr (grown_tr hg (grown_row (grown_of_below hb1))) (grownBy_set _ _ _ _)⟩
            have h := (own_put (i := a) (u := iv x) HO2.out).2.2
            rwa [← List.map_set] at h
          case measure => simp [intOf]; omega
      · have hce : c = l.length := by omega
        subst hce
        have hcl : ∀ ty, (Builtin.clear_ #[23] ty #[.slice (some ⟨bs, a, none⟩) (l.length - a) (cap - a)]).run Try.prog wr = .ok (.tuple #[]) (wr.setCells bs a (List.replicate (l.length - a) (.int .i64 0))) := fun ty =>
          Lib.run_clear_slice wr 23 3 ty (.int .i64 0) Try.underlying23 zero3 rfl rfl bs a _ _ (by omega) (fun j hj => by
            obtain ⟨y, hy⟩ : ∃ y, xs[a + j]? = some y := ⟨_, List.getElem?_eq_getElem (by have := HM.out.len; omega)⟩
            rw [own_cell (p := a + j) (u := iv y) HO1.out (by rw [List.getElem?_map, hy]; rfl)]
            rfl) (fun j _ => own_free HO1.out)
        go_wp2_with (simp only [hcl])
        go_ret
        obtain ⟨h1, h2⟩ := own_setCells (List.replicate (l.length - a) (Value.int .i64 0)) a wr (xs.map iv) HO1.out
        refine ⟨_, rfl, ?_, grown_tr hg h2⟩
        have hd : xs.take a = l.filter fun x => !nullB ws x := by
          have := HM.out.done
          rwa [List.take_length] at this
        rw [← hd]
        have hlt := (h1.lt bs rfl).2
        have hxl := HM.out.len
        have e : (xs.take a).length = a := by rw [List.length_take]; omega
        refine ⟨by omega, _, cap, by rw [e]; rfl, by omega, ?_, fun _ => ⟨bs, 0, rfl, hlt, fun m y hy j u hu => ?_⟩⟩
        · rcases HO.out.2 with ⟨h, h0⟩ | ⟨g, cap', cur, h, _, _, _, h4, _⟩
          · cases h
          · cases h; unfold maxLen at h4; omega
        · have hj : j = 0 := by
            rcases j with _ | j
            · rfl
            · simp [ic] at hu
          subst hj
          have hux : u = iv y := by simpa [ic] using hu.symm
          subst hux
          rw [show 0 + m * 1 + 0 = m by omega]
          refine own_cell h1 ?_
          have hm : m < a := by
            have := (List.getElem?_eq_some_iff.1 hy).1
            omega
          have h5 := congrArg (fun l => l[m]?) (setFrom_take (List.replicate (l.length - a) (Value.int .i64 0)) (xs.map iv) a)
          simp only [List.getElem?_take, if_pos hm] at h5 hy
          rw [h5, List.getElem?_map, hy]
          rfl

end Go.Proofs.Ytkhfkmfofhnmdaa
