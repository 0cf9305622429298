/-
  HillHours holds: the hours in a case, and in all cases, and the first case in which a station cannot flash, are as the reference has them, or the error is. No condition.
-/
import Derived.Test.YtlnagjdokfkjoaaRd
import Derived.Deep.CutRange
import Derived.Deep.DeepCutAuto
namespace Go.Proofs.Ytlnagjdokfkjoaa
open Go.RowKit

theorem stick_found {L : Ld} {a b h : Int} {m : Nat} (hm : m < L.cs.length) (h1 : freeB L a b m h = false) (h2 : ∀ q, q < m → freeB L a b q h = true) : stuckI L a b h ≠ [] ∧ (stuckI L a b h).headD 0 = (m : Int) := by
  have hne : stuckI L a b h ≠ [] := fun e => by
    have := stuck_nil.1 e m hm
    rw [h1] at this
    cases this
  obtain ⟨k, _, hk2, hk3, hk4⟩ := stuck_first hne
  refine ⟨hne, ?_⟩
  rw [hk2]
  rcases Nat.lt_trichotomy k m with h | h | h
  · have := h2 k h; rw [hk3] at this; cases this
  · rw [h]
  · have := hk4 m h; rw [h1] at this; cases this
theorem all_range_succ {p : Nat → Bool} {m : Nat} : ((List.range (m + 1)).all p) = ((List.range m).all p && p m) := by
  rw [List.range_succ]; simp
theorem stuck_all (L : Ld) (a b h : Int) : ((List.range L.cs.length).all fun q => freeB L a b q h) = (stuckI L a b h).isEmpty := by
  rw [Bool.eq_iff_iff, List.isEmpty_iff, stuck_nil, List.all_eq_true]
  exact ⟨fun h k hk => h k (List.mem_range.2 hk), fun h k hk => h k (List.mem_range.1 hk)⟩

theorem open_two {L : Ld} {k h a b : Int} (h0 : openI L k h [a, b] = 0) : a ≠ b := by
  have ho := open_ok h0
  unfold openI at h0
  rw [if_neg (by simp [ho.1])] at h0
  split at h0
  · cases h0
  · simp at h0
    exact h0

/-- No block holds both. -/
def Disj (u v : Value) : Prop := ∀ b, u.ownBlock = some b → v.ownBlock ≠ some b
theorem Disj.symm {u v : Value} (h : Disj u v) : Disj v u := fun b hb hu => h b hu hb
theorem two_append {w1 w2 : World} {v1 v2 v' : Value} {B n1 n2 : Nat} {xs1 xs2 : List Value} (_ : w1.ownsRow B 3 1 v1 n1 xs1) (h2 : w1.ownsRow B 3 1 v2 n2 xs2) (hd : Disj v1 v2) (hg : w1.grownBy w2 v1.ownBlock)
    (hat : v'.ownBlock = v1.ownBlock ∨ v'.ownBlock = some w1.heap.size) : w2.ownsRow B 3 1 v2 n2 xs2 ∧ Disj v' v2 := by
  refine ⟨h2.kept hg ?_, fun b hb hv => ?_⟩
  · cases hv : v2.ownBlock with
    | none => exact .inl rfl
    | some g => exact .inr fun e => hd g e.symm hv
  · rcases hat with e | e
    · rw [e] at hb; exact hd b hb hv
    · rw [e] at hb
      cases hb
      have := (h2.lt _ hv).2
      omega
def p1H (L : Ld) (i j : Nat) (k : Int) (q : Nat) : Bool := inB 0 ((L.cs.length : Int) - 1) k && freeB L i j k q
def hitB (k : Int) (m : Nat) : Bool := decide (0 ≤ k) && decide (k < (m : Int))
theorem hit_zero {k : Int} {n : Nat} : (if hitB k 0 = true then n + 1 else n) = n := by
  have : hitB k 0 = false := by unfold hitB; simp
  rw [this]; rfl
theorem hit_other {k : Int} {m : Nat} (h : (m : Int) ≠ k) : hitB k (m + 1) = hitB k m := by
  unfold hitB
  congr 1
  rw [decide_eq_decide]
  omega
theorem hit_here {m : Nat} : hitB (m : Int) m = false ∧ hitB (m : Int) (m + 1) = true := by
  unfold hitB
  constructor <;> simp <;> omega
theorem hit_end {L : Ld} {i j n N : Nat} {k : Int} (hN : N = L.cs.length) : uptoF (p1H L i j k) (if hitB k N = true then n + 1 else n) = uptoF (p1H L i j k) (n + 1) := by
  subst hN
  cases h : hitB k L.cs.length with
  | true => rfl
  | false =>
    have : p1H L i j k n = false := by
      unfold p1H
      have : inB 0 ((L.cs.length : Int) - 1) k = false := by
        rw [inB_not]
        unfold hitB at h
        simp at h
        omega
      rw [this]; rfl
    rw [uptoF_no this]; rfl
theorem hours_list {L : Ld} {i j : Nat} {k o : Int} (h1 : openI L k 0 [(i : Int), (j : Int)] = o) (h2 : openI L 0 0 [(i : Int), (j : Int)] = 0) : (hoursE L i j k).1 = uptoF (p1H L i j k) L.sn.length := by
  obtain ⟨he, _, ⟨_, hs⟩, hst⟩ := open_ok h2
  have hne := open_two h2
  unfold hoursE
  rw [h1]
  cases hk : inB 0 ((L.cs.length : Int) - 1) k with
  | true =>
    have : o = 0 := by
      rw [← h1]
      have a1 : inB 0 ((L.st.length : Int) - 1) i = true := inB_iff.2 (by have := hst i (by simp); omega)
      have a2 : inB 0 ((L.st.length : Int) - 1) j = true := inB_iff.2 (by have := hst j (by simp); omega)
      have a3 : inB 0 ((L.sn.length : Int) - 1) 0 = true := inB_iff.2 (by omega)
      unfold openI
      rw [if_neg (by simp [he]), hk, a3]
      have h4 : ((i : Int) == (j : Int)) = false := by rw [beq_eq_false_iff_ne]; exact hne
      simp [a1, a2, h4]
    rw [if_neg (by simp [this])]
    show uptoF (fun h => freeB L i j k h) L.sn.length = _
    congr 1
    funext q
    unfold p1H
    rw [hk]; rfl
  | false =>
    have : o ≠ 0 := by
      rw [← h1]
      unfold openI
      rw [if_neg (by simp [he]), hk]
      simp
    rw [if_pos this]
    symm
    rw [uptoF_nil]
    intro q _
    unfold p1H
    rw [hk]; rfl

set_option maxRecDepth 100000 in
set_option maxHeartbeats 9000000 in
theorem hours_law (v1 v2 v3 v4 : Value) (L : Ld) (c : List (Value × List Cl)) (x y k z : Int) (w : World) (hL : LandAny w v1 v2 v3 v4 L c) :
    Calls Try.prog 4 #[.agg #[v1, v2, v3, v4], .int .i64 x, .int .i64 y, .int .i64 k, .int .i64 z] w fun e w' => e = .returned (.bool true) ∧ Below w.heap.size w w' := by
  have HA := Lib.hid hL
  obtain ⟨A1, cap1, rfl, _, _⟩ := hL.st.form
  obtain ⟨A2, cap2, rfl, _, _⟩ := hL.rg.form
  obtain ⟨A3, cap3, rfl, _, _⟩ := hL.cs.form
  obtain ⟨A4, cap4, rfl, _, _⟩ := hL.sn.form
  have Hcl := Lib.hid (show c.length = L.cs.length by rw [← hL.eq]; simp)
  clear hL
  cases hth : thinB L
  case false =>
    have Hth := Lib.hid hth
    clear hth
    go_enter Try.func4, Try.ntmps4
    go_wp2_with fail
    refine (Thin_any _ _ _ _ L c _ (HA.out.kept (up_alloc up0 _))).mono ?_
    rintro e y0 ⟨rfl, hb⟩
    rw [Hth.out]
    go_wp2_with fail
    refine (awake_any _).mono ?_
    rintro e y1 ⟨rfl, hb2⟩
    go_wp2_with fail
    go_ret
    exact ⟨rfl, up_later (up_later (up_alloc up0 _) hb) hb2⟩
  have HT0 := Lib.hid (HA.out.thin hth)
  have Hth := Lib.hid hth
  clear hth
  obtain ⟨o1, ho1⟩ : ∃ o, openI L k 0 [x, y] = o := ⟨_, rfl⟩
  obtain ⟨o2, ho2⟩ : ∃ o, openI L 0 0 [x, y] = o := ⟨_, rfl⟩
  obtain ⟨o3, ho3⟩ : ∃ o, openI L 0 z [x, y] = o := ⟨_, rfl⟩
  obtain ⟨hl, hhl⟩ : ∃ l, (hoursE L x y k).1 = l := ⟨_, rfl⟩
  obtain ⟨al, hal⟩ : ∃ l, (alwaysE L x y).1 = l := ⟨_, rfl⟩
  obtain ⟨kk, ff, hkf⟩ : ∃ kk ff, stickE L x y z = (kk, ff) := ⟨_, _, rfl⟩
  have HH := Lib.hid (show hoursE L x y k = (hl, o1) by
    have h : (hoursE L x y k).2 = o1 := by
      unfold hoursE
      split
      · exact ho1
      · rename_i h; rw [← ho1]; simpa using (Classical.not_not.1 h).symm
    rw [← h, ← hhl])
  have HY := Lib.hid (show alwaysE L x y = (al, o2) by
    have h : (alwaysE L x y).2 = o2 := by
      unfold alwaysE
      split
      · exact ho2
      · rename_i h; rw [← ho2]; simpa using (Classical.not_not.1 h).symm
    rw [← h, ← hal])
  have Hl1 := Lib.hid (show o1 ≠ 0 → ¬ 0 < hl.length from fun h => by
    rw [← hhl]
    unfold hoursE
    rw [if_pos (by rw [ho1]; exact h)]
    simp)
  have Hl2 := Lib.hid (show o2 ≠ 0 → ¬ 0 < al.length from fun h => by
    rw [← hal]
    unfold alwaysE
    rw [if_pos (by rw [ho2]; exact h)]
    simp)
  have HS := Lib.hid hkf
  have HO1 := Lib.hid ho1
  have HO2 := Lib.hid ho2
  have HO3 := Lib.hid ho3
  clear hkf ho1 ho2 ho3 hhl hal
  go_enter Try.func4, Try.ntmps4
  go_wp2_with fail
  have BX := Lib.hid (Box.new (w := w) (t := 27) (cs := #[.slice A1 L.st.length cap1, .slice A2 L.rg.length cap2, .slice A3 c.length cap3, .slice A4 L.sn.length cap4]) rfl)
  have HB := Lib.hid (up_alloc (up0 (w := w)) (.cells #[.slice A1 L.st.length cap1, .slice A2 L.rg.length cap2, .slice A3 c.length cap3, .slice A4 L.sn.length cap4] 27))
  have HT := Lib.hid (HT0.out.kept HB.out)
  refine (Thin_any _ _ _ _ L c _ (HA.out.kept HB.out)).mono ?_
  rintro e y0 ⟨rfl, hb⟩
  rw [Hth.out]
  have HB := Lib.hid (up_later HB.out hb)
  have HT := Lib.hid (HT.out.kept hb)
  have BX := Lib.hid (BX.out.kept hb)
  clear hb
  have BB := BX.out
  have cB := fun i => BB.cell i
  go_wp2_with fail
  clear cB BB
  refine (Land_any _ _ _ _ L c _ HT.out).mono ?_
  rintro e ya ⟨a1, a2, a3, a4, ca, rfl, hl, hb⟩
  have Hl := Lib.hid hl
  clear hl
  have HB := Lib.hid (up_later HB.out hb)
  have HT := Lib.hid (HT.out.kept hb)
  have BX := Lib.hid (BX.out.kept hb)
  clear hb
  go_wp2_with fail
  have AA := Hours_any _ _ _ _ L _ x y k ya Hl.out
  rw [HH.out] at AA
  refine AA.mono ?_
  rintro e yb ⟨u, rfl, hr, hb⟩
  obtain ⟨_, Ah, ph, rfl, _, _⟩ := hr.form
  have HR1 := Lib.hid hr
  clear AA Hl hr
  have HB := Lib.hid (up_later HB.out hb)
  have HT := Lib.hid (HT.out.kept hb)
  have BX := Lib.hid (BX.out.kept hb)
  clear hb
  have BB := BX.out
  have cB := fun i => BB.cell i
  go_wp2_with fail
  clear cB BB
  refine (Land_any _ _ _ _ L c _ HT.out).mono ?_
  rintro e ya ⟨a1, a2, a3, a4, ca, rfl, hl, hb⟩
  have Hl := Lib.hid hl
  clear hl
  have HB := Lib.hid (up_later HB.out hb)
  have HT := Lib.hid (HT.out.kept hb)
  have BX := Lib.hid (BX.out.kept hb)
  have HR1 := Lib.hid (HR1.out.kept hb)
  clear hb
  go_wp2_with fail
  have AA := Always_any _ _ _ _ L _ x y ya Hl.out
  rw [HY.out] at AA
  refine AA.mono ?_
  rintro e yb ⟨u, rfl, hr, hb⟩
  obtain ⟨_, Aa, pa, rfl, _, _⟩ := hr.form
  have HR2 := Lib.hid hr
  clear AA Hl hr
  have HB := Lib.hid (up_later HB.out hb)
  have HT := Lib.hid (HT.out.kept hb)
  have BX := Lib.hid (BX.out.kept hb)
  have HR1 := Lib.hid (HR1.out.kept hb)
  clear hb
  have BB := BX.out
  have cB := fun i => BB.cell i
  go_wp2_with fail
  clear cB BB
  refine (Land_any _ _ _ _ L c _ HT.out).mono ?_
  rintro e ya ⟨a1, a2, a3, a4, ca, rfl, hl, hb⟩
  have Hl := Lib.hid hl
  clear hl
  have HB := Lib.hid (up_later HB.out hb)
  have HT := Lib.hid (HT.out.kept hb)
  have BX := Lib.hid (BX.out.kept hb)
  have HR1 := Lib.hid (HR1.out.kept hb)
  have HR2 := Lib.hid (HR2.out.kept hb)
  clear hb
  go_wp2_with fail
  have AA := Stick_any _ _ _ _ L _ x y z ya Hl.out
  rw [HS.out] at AA
  refine AA.mono ?_
  rintro e yb ⟨rfl, hb⟩
  clear AA Hl
  have HB := Lib.hid (up_later HB.out hb)
  have HT := Lib.hid (HT.out.kept hb)
  have BX := Lib.hid (BX.out.kept hb)
  have HR1 := Lib.hid (HR1.out.kept hb)
  have HR2 := Lib.hid (HR2.out.kept hb)
  clear hb
  have BB := BX.out
  have cB := fun i => BB.cell i
  go_wp2_with fail
  clear cB BB
  refine (Lasked_any _ _ _ _ L c x y k 0 _ HT.out).mono ?_
  rintro e yc ⟨rfl, hb⟩
  rw [HO1.out]
  have HB := Lib.hid (up_later HB.out hb)
  have HT := Lib.hid (HT.out.kept hb)
  have BX := Lib.hid (BX.out.kept hb)
  have HR1 := Lib.hid (HR1.out.kept hb)
  have HR2 := Lib.hid (HR2.out.kept hb)
  clear hb
  go_upto_region 7 with fail
  go_cut [73] (fun s wx => s = .bool false ∧ wx = yc)
  case first =>
    have oo : (o1 != o1) = false := by simp
    by_cases h0 : o1 = 0
    · subst h0
      go_wp2_with fail
      go_meet
      exact ⟨rfl, rfl⟩
    · have hq := Hl1.out h0
      have hne : (o1 != 0) = true := by simpa using h0
      go_wp2_with fail
      go_meet
      exact ⟨rfl, rfl⟩
  case rest =>
    obtain ⟨rfl, rfl⟩ := hcut
    have BB := BX.out
    have cB := fun i => BB.cell i
    go_wp2_with fail
    clear cB BB
    refine (Lasked_any _ _ _ _ L c x y 0 0 _ HT.out).mono ?_
    rintro e yd ⟨rfl, hb⟩
    rw [HO2.out]
    have HB := Lib.hid (up_later HB.out hb)
    have HT := Lib.hid (HT.out.kept hb)
    have BX := Lib.hid (BX.out.kept hb)
    have HR1 := Lib.hid (HR1.out.kept hb)
    have HR2 := Lib.hid (HR2.out.kept hb)
    clear hb
    go_upto_region 10 with fail
    go_cut [89] (fun s wx => s = .bool false ∧ wx = yd)
    case first =>
      have oo : (o2 != o2) = false := by simp
      by_cases h0 : o2 = 0
      · subst h0
        go_wp2_with fail
        go_meet
        exact ⟨rfl, rfl⟩
      · have hq := Hl2.out h0
        have hne : (o2 != 0) = true := by simpa using h0
        go_wp2_with fail
        go_meet
        exact ⟨rfl, rfl⟩
    case rest =>
      obtain ⟨rfl, rfl⟩ := hcut
      have BB := BX.out
      have cB := fun i => BB.cell i
      go_wp2_with fail
      clear cB BB
      refine (Lasked_any _ _ _ _ L c x y 0 z _ HT.out).mono ?_
      rintro e ye ⟨rfl, hb⟩
      rw [HO3.out]
      have HB := Lib.hid (up_later HB.out hb)
      have HT := Lib.hid (HT.out.kept hb)
      have BX := Lib.hid (BX.out.kept hb)
      have HR1 := Lib.hid (HR1.out.kept hb)
      have HR2 := Lib.hid (HR2.out.kept hb)
      clear hb
      go_upto_if 96 with fail
      go_cut [19, 20] (fun s t wx => s = .int .i64 ff ∧ t = .int .i64 kk ∧ Hid (Below ye.heap.size ye wx))
      case first =>
        by_cases h0 : o3 = 0
        · subst h0
          obtain ⟨i, j, _, h, rfl, rfl, -, rfl⟩ := nats_of HO3.out
          obtain ⟨he, _, ⟨_, hh⟩, hst⟩ := open_ok HO3.out
          have hok := land_ok he
          have hi := hst i (by simp)
          have hj := hst j (by simp)
          have hi' : i < L.st.length := by omega
          have hj' : j < L.st.length := by omega
          have hh' : h < L.sn.length := by omega
          have hij : ((j : Int) != (i : Int)) = true := by
            have := open_two HO3.out
            simp; omega
          have Hij := Lib.hid hij
          have Hok := Lib.hid hok
          have hn4 := hok.len.2.2.2.2.1
          have hse : (kk, ff) = if stuckI L i j h = [] then ((0 : Int), (7 : Int)) else ((stuckI L i j h).headD 0, 0) := by
            rw [← HS.out]
            unfold stickE
            rw [if_neg (by rw [HO3.out]; simp)]
          have Hse := Lib.hid hse
          clear he hst hi hj hh hok hij hse
          rw [show ((0 : Int) == 0) = true from rfl]
          go_wp2_with fail
          go_loopw [20] (fun q wr => ∃ m : Nat, m ≤ c.length ∧ q = .int .i64 m ∧ Hid (∀ q, q < m → freeB L i j q h = true) ∧ Hid (Below ye.heap.size ye wr)) (fun q _ => c.length - (intOf q).toNat)
          case atStart => exact ⟨0, by omega, rfl, fun q hq => absurd hq (Nat.not_lt_zero q), up0⟩
          case round =>
            obtain ⟨m, hm, rfl, hall, hb⟩ := hrel
            have m0 : (0 : Int) ≤ (m : Int) := by omega
            have BB := BX.out.kept hb.out
            have cB := fun i => BB.cell i
            by_cases hlt : m < c.length
            · have m1 : (m : Int) < (c.length : Int) := by omega
              have mne : ((m : Int) == (c.length : Int)) = false := by rw [beq_eq_false_iff_ne]; omega
              go_wp2_with fail
              clear cB BB
              refine (RCan_any _ _ _ _ L c i j m h _ (HT.out.kept hb.out) Hok.out hi' hj' (by have := Hcl.out; omega) hh').mono ?_
              rintro e w1 ⟨rfl, hb1⟩
              rw [Hij.out, Bool.true_and]
              have hb2 := Lib.hid (up_later hb.out hb1)
              have BB := (BX.out.kept hb.out).kept hb1
              have cB := fun i => BB.cell i
              clear hb1
              cases hf : freeB L i j m h with
              | true =>
                have hall2 := Lib.hid (show ∀ q, q < m + 1 → freeB L i j q h = true from fun q hq => by
                  by_cases hqm : q = m
                  · rw [hqm]; exact hf
                  · exact hall.out q (by omega))
                clear hf cB BB
                go_wp2_with fail
                exact ⟨⟨m + 1, by omega, by go_num, hall2.out, hb2.out⟩, by simp [intOf]; omega⟩
              | false =>
                obtain ⟨e1, e2⟩ := stick_found (by have := Hcl.out; omega) hf hall.out
                have hse := Hse.out
                rw [if_neg e1, e2] at hse
                obtain ⟨rfl, rfl⟩ := Prod.mk.inj hse
                clear hf e1 e2 hse
                go_wp2_with fail
                go_meet
                exact ⟨rfl, rfl, hb2.out⟩
            · obtain rfl : m = c.length := by omega
              have hse := Hse.out
              rw [if_pos (stuck_nil.2 fun q hq => hall.out q (by have := Hcl.out; omega))] at hse
              obtain ⟨rfl, rfl⟩ := Prod.mk.inj hse
              clear hse
              go_wp2_with fail
              go_meet
              exact ⟨rfl, rfl, hb.out⟩
        · have hne : (o3 == 0) = false := by simpa using h0
          have hse : (kk, ff) = (0, o3) := by
            rw [← HS.out]
            unfold stickE
            rw [if_pos (by rw [HO3.out]; exact h0), HO3.out]
          obtain ⟨rfl, rfl⟩ := Prod.mk.inj hse
          clear hse
          go_wp2_with fail
          go_meet
          exact ⟨rfl, rfl, up0⟩
      case rest =>
        obtain ⟨rfl, rfl, hb⟩ := hcut
        have hb := hb.out
        have HB := Lib.hid (up_later HB.out hb)
        have HT := Lib.hid (HT.out.kept hb)
        have BX := Lib.hid (BX.out.kept hb)
        have HR1 := Lib.hid (HR1.out.kept hb)
        have HR2 := Lib.hid (HR2.out.kept hb)
        clear hb
        have ss : (ff != ff) = false := by simp
        have kks : (kk != kk) = false := by simp
        by_cases h2 : o2 = 0
        · subst h2
          obtain ⟨i, j, _, _, rfl, rfl, -, -⟩ := nats_of HO2.out
          obtain ⟨he, _, _, hst⟩ := open_ok HO2.out
          have hok := land_ok he
          have hi := hst i (by simp)
          have hj := hst j (by simp)
          have hi' : i < L.st.length := by omega
          have hj' : j < L.st.length := by omega
          have Hij := Lib.hid (show ((j : Int) != (i : Int)) = true by
            have := open_two HO2.out
            simp; omega)
          have Hok := Lib.hid hok
          have hn12 := hok.len.2.2.2.2.2.2
          have hn4 : c.length ≤ 4 := by have := hok.len.2.2.2.2.1; have := Hcl.out; omega
          obtain ⟨ii0, hii, hz0, hz1, hz2⟩ := info_parts int_info
          have HHL := Lib.hid (hours_list HO1.out HO2.out)
          rw [show (hoursE L i j k).1 = hl by rw [HH.out]] at HHL
          have HAL := Lib.hid (show al = uptoF (fun h => (stuckI L i j h).isEmpty) L.sn.length by
            have := HY.out
            unfold alwaysE at this
            rw [if_neg (by rw [HO2.out]; simp)] at this
            exact (Prod.mk.inj this).1.symm)
          clear he hst hi hj hok
          have BB := BX.out
          have cB := fun i => BB.cell i
          go_wp2_with fail
          clear cB BB
          go_loopw [21, 22, 23] (fun v1 v2 q wr => ∃ n : Nat, n ≤ L.sn.length ∧ q = .int .i64 n ∧ Hid (wr.ownsRow wc.heap.size 3 1 v1 (uptoF (p1H L i j k) n).length ((uptoF (p1H L i j k) n).map iv)) ∧ Hid (wr.ownsRow wc.heap.size 3 1 v2 (uptoF (fun h => (stuckI L i j h).isEmpty) n).length ((uptoF (fun h => (stuckI L i j h).isEmpty) n).map iv)) ∧ Hid (Disj v1 v2) ∧ Hid (Below wc.heap.size wc wr)) (fun _ _ q _ => L.sn.length - (intOf q).toNat)
          case atStart => exact ⟨0, by omega, rfl, World.ownsRow_nil _ _ _ _, World.ownsRow_nil _ _ _ _, (fun b h => by cases h), up0⟩
          case round =>
            obtain ⟨n, hn, rfl, hv1, hv2, hd, hb⟩ := hrel
            have n0 : (0 : Int) ≤ (n : Int) := by omega
            have BB := BX.out.kept hb.out
            have cB := fun i => BB.cell i
            by_cases hlt : n < L.sn.length
            · have n1 : (n : Int) < (L.sn.length : Int) := by omega
              have hlen2 := uptoF_length (p := fun h => (stuckI L i j h).isEmpty) (k := n)
              obtain ⟨wo, hwo⟩ : ∃ wo : World, wo = wr := ⟨_, rfl⟩
              subst hwo
              go_wp2_with fail
              clear cB BB
              go_loopw [21, 24, 25] (fun v1 f q wi => ∃ m : Nat, m ≤ c.length ∧ q = .int .i64 m ∧ f = .bool ((List.range m).all fun q => freeB L i j q n) ∧ Hid (wi.ownsRow wc.heap.size 3 1 v1 (uptoF (p1H L i j k) (if hitB k m then n + 1 else n)).length ((uptoF (p1H L i j k) (if hitB k m then n + 1 else n)).map iv)) ∧ Hid (wi.ownsRow wc.heap.size 3 1 _ (uptoF (fun h => (stuckI L i j h).isEmpty) n).length ((uptoF (fun h => (stuckI L i j h).isEmpty) n).map iv)) ∧ Hid (Disj v1 _) ∧ Hid (Below wc.heap.size wc wi)) (fun _ _ q _ => c.length - (intOf q).toNat)
              case atStart => exact ⟨0, by omega, rfl, by simp, by rw [hit_zero]; exact hv1.out, hv2.out, hd.out, hb.out⟩
              case round =>
                clear hv1 hv2 hd hb
                obtain ⟨m, hm, rfl, rfl, hv1, hv2, hd, hb⟩ := hrel
                have m0 : (0 : Int) ≤ (m : Int) := by omega
                have BB := BX.out.kept hb.out
                have cB := fun i => BB.cell i
                by_cases hlm : m < c.length
                · have m1 : (m : Int) < (c.length : Int) := by omega
                  have hlen1 := uptoF_length (p := p1H L i j k) (k := n)
                  cases hE : (List.range m).all fun q => freeB L i j q n with
                  | true =>
                    have HE := Lib.hid hE
                    clear hE
                    go_wp2_with fail
                    clear cB BB
                    refine (RCan_any _ _ _ _ L c i j m n _ (HT.out.kept hb.out) Hok.out hi' hj' (by have := Hcl.out; omega) hlt).mono ?_
                    rintro e w1 ⟨rfl, hb1⟩
                    rw [Hij.out, Bool.true_and]
                    have hb2 := Lib.hid (up_later hb.out hb1)
                    have hv1 := Lib.hid (own_below hv1.out hb1)
                    have hv2 := Lib.hid (own_below hv2.out hb1)
                    have hsz := hb2.out.size
                    clear hb1 hb
                    by_cases hmk : (m : Int) = k
                    · subst hmk
                      have HP := Lib.hid (show p1H L i j m n = freeB L i j m n by
                        unfold p1H
                        rw [inB_iff.2 (by have := Hcl.out; omega), Bool.true_and])
                      have hown := hv1.out
                      rw [hit_here.1, if_neg (by simp)] at hown
                      cases hf : freeB L i j m n with
                      | true =>
                        have Hu := Lib.hid (uptoF_yes (HP.out.trans hf))
                        have HA := Lib.hid (show ((List.range (m + 1)).all fun q => freeB L i j q n) = _ by rw [all_range_succ, HE.out, hf])
                        clear hf
                        go_wp2_with (at_builtin; refine wpList_append_own_at _ rfl _ _ 41 rfl wc.heap.size 3 ii0 (.int .i64 0) 1 8 Try.underlying41 hii hz0 hz1 hz2 rfl (by decide) _ _ _ rfl (hown.alloc _) ⟨w1.heap.size, 0, none⟩ 1 1 [.int .i64 n] rfl rfl (cell_one_new _ _ _) (by simp [Value.oneCell']) (by unfold maxLen; omega) (by omega) (by simp; omega) ?_; intro v' w2 hown' hgrow _ hat)
                        obtain ⟨g1, g2⟩ := two_append (hown.alloc (.cells #[iv n] 3)) (hv2.out.alloc (.cells #[iv n] 3)) hd.out hgrow hat
                        refine ⟨⟨m + 1, by omega, by go_num, by rw [HA.out]; rfl, ?_, g1, g2, (up_alloc hb2.out (.cells #[iv n] 3)).grown hgrow (by simp; omega) fun g e => (hown.lt g e).1⟩, by simp [intOf]; omega⟩
                        rw [hit_here.2, if_pos rfl, Hu.out]
                        simpa [Hid] using hown'
                      | false =>
                        have Hu := Lib.hid (uptoF_no (HP.out.trans hf))
                        have HA := Lib.hid (show ((List.range (m + 1)).all fun q => freeB L i j q n) = _ by rw [all_range_succ, HE.out, hf])
                        have HO := Lib.hid hown
                        clear hf hown
                        go_wp2_with fail
                        exact ⟨⟨m + 1, by omega, by go_num, by rw [HA.out]; rfl, by rw [hit_here.2, if_pos rfl, Hu.out]; exact HO.out, hv2.out, hd.out, hb2.out⟩, by simp [intOf]; omega⟩
                    · have Hho := Lib.hid (hit_other hmk)
                      have mk : ((m : Int) == k) = false := by rw [beq_eq_false_iff_ne]; exact hmk
                      cases hf : freeB L i j m n with
                      | true =>
                        have HA := Lib.hid (show ((List.range (m + 1)).all fun q => freeB L i j q n) = _ by rw [all_range_succ, HE.out, hf])
                        clear hf hmk
                        go_wp2_with fail
                        exact ⟨⟨m + 1, by omega, by go_num, by rw [HA.out]; rfl, by rw [Hho.out]; exact hv1.out, hv2.out, hd.out, hb2.out⟩, by simp [intOf]; omega⟩
                      | false =>
                        have HA := Lib.hid (show ((List.range (m + 1)).all fun q => freeB L i j q n) = _ by rw [all_range_succ, HE.out, hf])
                        clear hf hmk
                        go_wp2_with fail
                        exact ⟨⟨m + 1, by omega, by go_num, by rw [HA.out]; rfl, by rw [Hho.out]; exact hv1.out, hv2.out, hd.out, hb2.out⟩, by simp [intOf]; omega⟩
                  | false =>
                    have HE := Lib.hid hE
                    clear hE
                    go_wp2_with fail
                    clear cB BB
                    refine (RCan_any _ _ _ _ L c i j m n _ (HT.out.kept hb.out) Hok.out hi' hj' (by have := Hcl.out; omega) hlt).mono ?_
                    rintro e w1 ⟨rfl, hb1⟩
                    rw [Hij.out, Bool.true_and]
                    have hb2 := Lib.hid (up_later hb.out hb1)
                    have hv1 := Lib.hid (own_below hv1.out hb1)
                    have hv2 := Lib.hid (own_below hv2.out hb1)
                    have hsz := hb2.out.size
                    clear hb1 hb
                    by_cases hmk : (m : Int) = k
                    · subst hmk
                      have HP := Lib.hid (show p1H L i j m n = freeB L i j m n by
                        unfold p1H
                        rw [inB_iff.2 (by have := Hcl.out; omega), Bool.true_and])
                      have hown := hv1.out
                      rw [hit_here.1, if_neg (by simp)] at hown
                      cases hf : freeB L i j m n with
                      | true =>
                        have Hu := Lib.hid (uptoF_yes (HP.out.trans hf))
                        have HA := Lib.hid (show ((List.range (m + 1)).all fun q => freeB L i j q n) = _ by rw [all_range_succ, HE.out, hf])
                        clear hf
                        go_wp2_with (at_builtin; refine wpList_append_own_at _ rfl _ _ 41 rfl wc.heap.size 3 ii0 (.int .i64 0) 1 8 Try.underlying41 hii hz0 hz1 hz2 rfl (by decide) _ _ _ rfl (hown.alloc _) ⟨w1.heap.size, 0, none⟩ 1 1 [.int .i64 n] rfl rfl (cell_one_new _ _ _) (by simp [Value.oneCell']) (by unfold maxLen; omega) (by omega) (by simp; omega) ?_; intro v' w2 hown' hgrow _ hat)
                        obtain ⟨g1, g2⟩ := two_append (hown.alloc (.cells #[iv n] 3)) (hv2.out.alloc (.cells #[iv n] 3)) hd.out hgrow hat
                        refine ⟨⟨m + 1, by omega, by go_num, by rw [HA.out]; rfl, ?_, g1, g2, (up_alloc hb2.out (.cells #[iv n] 3)).grown hgrow (by simp; omega) fun g e => (hown.lt g e).1⟩, by simp [intOf]; omega⟩
                        rw [hit_here.2, if_pos rfl, Hu.out]
                        simpa [Hid] using hown'
                      | false =>
                        have Hu := Lib.hid (uptoF_no (HP.out.trans hf))
                        have HA := Lib.hid (show ((List.range (m + 1)).all fun q => freeB L i j q n) = _ by rw [all_range_succ, HE.out, hf])
                        have HO := Lib.hid hown
                        clear hf hown
                        go_wp2_with fail
                        exact ⟨⟨m + 1, by omega, by go_num, by rw [HA.out]; rfl, by rw [hit_here.2, if_pos rfl, Hu.out]; exact HO.out, hv2.out, hd.out, hb2.out⟩, by simp [intOf]; omega⟩
                    · have Hho := Lib.hid (hit_other hmk)
                      have mk : ((m : Int) == k) = false := by rw [beq_eq_false_iff_ne]; exact hmk
                      cases hf : freeB L i j m n with
                      | true =>
                        have HA := Lib.hid (show ((List.range (m + 1)).all fun q => freeB L i j q n) = _ by rw [all_range_succ, HE.out, hf])
                        clear hf hmk
                        go_wp2_with fail
                        exact ⟨⟨m + 1, by omega, by go_num, by rw [HA.out]; rfl, by rw [Hho.out]; exact hv1.out, hv2.out, hd.out, hb2.out⟩, by simp [intOf]; omega⟩
                      | false =>
                        have HA := Lib.hid (show ((List.range (m + 1)).all fun q => freeB L i j q n) = _ by rw [all_range_succ, HE.out, hf])
                        clear hf hmk
                        go_wp2_with fail
                        exact ⟨⟨m + 1, by omega, by go_num, by rw [HA.out]; rfl, by rw [Hho.out]; exact hv1.out, hv2.out, hd.out, hb2.out⟩, by simp [intOf]; omega⟩
                · obtain rfl : m = c.length := by omega
                  have hst := stuck_all L i j n
                  rw [← Hcl.out] at hst
                  rw [hst]
                  have hv1' := Lib.hid (show wr.ownsRow wc.heap.size 3 1 _ (uptoF (p1H L i j k) (n + 1)).length ((uptoF (p1H L i j k) (n + 1)).map iv) by rw [← hit_end Hcl.out]; exact hv1.out)
                  clear hst hv1
                  cases hp : (stuckI L i j n).isEmpty with
                  | true =>
                    have Hu := Lib.hid (uptoF_yes (p := fun h : Nat => (stuckI L i j h).isEmpty) hp)
                    have hown := hv2.out
                    have hsz := hb.out.size
                    clear hp
                    go_wp2_with (at_builtin; refine wpList_append_own_at _ rfl _ _ 41 rfl wc.heap.size 3 ii0 (.int .i64 0) 1 8 Try.underlying41 hii hz0 hz1 hz2 rfl (by decide) _ _ _ rfl (hown.alloc _) ⟨wr.heap.size, 0, none⟩ 1 1 [.int .i64 n] rfl rfl (cell_one_new _ _ _) (by simp [Value.oneCell']) (by unfold maxLen; omega) (by omega) (by simp; omega) ?_; intro v' w2 hown' hgrow _ hat)
                    obtain ⟨g1, g2⟩ := two_append (hown.alloc (.cells #[iv n] 3)) (hv1'.out.alloc (.cells #[iv n] 3)) hd.out.symm hgrow hat
                    refine ⟨⟨n + 1, by omega, by go_num, g1, ?_, g2.symm, (up_alloc hb.out (.cells #[iv n] 3)).grown hgrow (by simp; omega) fun g e => (hown.lt g e).1⟩, by simp [intOf]; omega⟩
                    rw [Hu.out]
                    simpa [Hid] using hown'
                  | false =>
                    have Hu := Lib.hid (uptoF_no (p := fun h : Nat => (stuckI L i j h).isEmpty) hp)
                    clear hp
                    go_wp2_with fail
                    exact ⟨⟨n + 1, by omega, by go_num, hv1'.out, by rw [Hu.out]; exact hv2.out, hd.out, hb.out⟩, by simp [intOf]; omega⟩
            · obtain rfl : n = L.sn.length := by omega
              have hlen1 := uptoF_length (p := p1H L i j k) (k := L.sn.length)
              have hlen2 := uptoF_length (p := fun h => (stuckI L i j h).isEmpty) (k := L.sn.length)
              have hr1 := RowsAt.of_own hv1.out (by omega)
              have hr2 := RowsAt.of_own hv2.out (by omega)
              rw [← HHL.out] at hr1
              rw [← HAL.out] at hr2
              have HR3 := Lib.hid hr1
              have HR4 := Lib.hid hr2
              have eH := Lib.hid (beq_self_eq_true hl)
              have eA := Lib.hid (beq_self_eq_true al)
              have hb := hb.out
              clear hr1 hr2 hv1 hv2 hd
              have HB := Lib.hid (up_later HB.out hb)
              have HT := Lib.hid (HT.out.kept hb)
              have BX := Lib.hid (BX.out.kept hb)
              have HR1 := Lib.hid (HR1.out.kept hb)
              have HR2 := Lib.hid (HR2.out.kept hb)
              clear hb
              go_wp2_with fail
              refine (ints_any _ _ _ _ _ HR1.out HR3.out).mono ?_
              rintro e w5 ⟨rfl, hb⟩
              rw [eH.out]
              have HB := Lib.hid (up_later HB.out hb)
              have HR2 := Lib.hid (HR2.out.kept hb)
              have HR4 := Lib.hid (HR4.out.kept hb)
              clear hb
              go_wp2_with fail
              refine (ints_any _ _ _ _ _ HR2.out HR4.out).mono ?_
              rintro e w6 ⟨rfl, hb⟩
              rw [eA.out]
              have HB := Lib.hid (up_later HB.out hb)
              clear hb
              go_wp2_with fail
              refine (awake_any _).mono ?_
              rintro e y9 ⟨rfl, hb⟩
              go_wp2_with fail
              go_ret
              exact ⟨by simp [go_sem], up_later HB.out hb⟩
        · have n2 : (o2 != 0) = true := by simpa using h2
          have BB := BX.out
          have cB := fun i => BB.cell i
          go_wp2_with fail
          clear cB BB
          refine (awake_any _).mono ?_
          rintro e y9 ⟨rfl, hb⟩
          go_wp2_with fail
          go_ret
          exact ⟨by simp [go_sem], up_later HB.out hb⟩

end Go.Proofs.Ytlnagjdokfkjoaa

namespace Go.Proofs.Ytlnagjdokfkjoaa
open Go.ChangeShapes Go.WideShapes Go.ChangeAt Go.RowKit

theorem rec3 : Try.prog.readableRec 3 = true ∧ 3 < Try.prog.types.size := ⟨by kernel_rfl, by have h : decide (3 < Try.prog.types.size) = true := (by kernel_rfl); exact of_decide_eq_true h⟩
set_option maxRecDepth 100000 in
theorem hillHours_lifted (os : Os) (started : os.Started) (H : Type) (enc : TypeId × Value → H) :
    ReturnsInHanded {} Try.checked os 4 .any (Rows.hillHoursSpec.pre6 enc Try.prog Try.f4 Rows.hillHoursRow.domain false) (Rows.hillHoursSpec.post enc Try.prog Try.f4 false true false false) := by
  refine returnsInHanded_of_change (C := Try.checked) own_knob started (by kernel_rfl) Try.func4
    (ChangeSpec.witness6 (enc := enc) (C := Try.checked) false ⟨#[], #[.agg #[.slice Option.none 0 0, .slice Option.none 0 0, .slice Option.none 0 0, .slice Option.none 0 0], .int .i64 0, .int .i64 0, .int .i64 0, .int .i64 0], []⟩ 8 (by kernel_rfl) (by kernel_rfl) (by kernel_rfl) (by kernel_rfl)) ?_
  intro W base args ds gs before hval0 hW hcnd _
  have hval : ∀ (j : Nat) t v, Try.f4.params[j]? = some t → args[j]? = some v → Value.okWide Try.prog W .any base t v := hval0
  have hW' := hW
  obtain ⟨p, q, hA0, hV, rfl, hfz, hnd⟩ := hW
  have hA : DataW.TrodAll enc Try.prog W 0 (fun _ => true) true Try.f4.params.toList args.toList ds p := hA0
  rw [Try.params4] at hA hval
  have hlt : ∀ x ∈ p, x.block < W.heap.size := fun x hx => hW'.lt x (List.mem_append_left _ hx)
  have hAk := hA
  obtain ⟨v0, vs0, d0, ds0, p0, q0, hargs, rfl, rfl, h0, r0⟩ := trodAll_cons hA
  obtain ⟨v1, vs1, d1, ds1, p1, q1, rfl, rfl, rfl, h1, r1⟩ := trodAll_cons r0
  obtain ⟨v2, vs2, d2, ds2, p2, q2, rfl, rfl, rfl, h2, r2⟩ := trodAll_cons r1
  obtain ⟨v3, vs3, d3, ds3, p3, q3, rfl, rfl, rfl, h3, r3⟩ := trodAll_cons r2
  obtain ⟨v4, vs4, d4, ds4, p4, q4, rfl, rfl, rfl, h4, r4⟩ := trodAll_cons r3
  obtain ⟨rfl, rfl, rfl⟩ := trodAll_nil r4
  obtain rfl : args = #[v0, v1, v2, v3, v4] := by cases args; simp_all
  obtain ⟨rfl, rfl⟩ := trodVars_none hV
  obtain ⟨a1, rfl, rfl, rfl, _⟩ := open_int Try.underlying3 (hval 1 3 v1 rfl rfl) h1
  obtain ⟨a2, rfl, rfl, rfl, _⟩ := open_int Try.underlying3 (hval 2 3 v2 rfl rfl) h2
  obtain ⟨a3, rfl, rfl, rfl, _⟩ := open_int Try.underlying3 (hval 3 3 v3 rfl rfl) h3
  obtain ⟨a4, rfl, rfl, rfl, _⟩ := open_int Try.underlying3 (hval 4 3 v4 rfl rfl) h4
  obtain ⟨cs, rfl, _⟩ := okWide_struct und27 (hval 0 27 v0 rfl rfl)
  obtain ⟨fuel, h0⟩ := h0
  obtain ⟨u1, u2, u3, u4, L, c, hcs, hL⟩ := open_land h0
  obtain rfl : cs = #[u1, u2, u3, u4] := by
    have h : cs.toList = [u1, u2, u3, u4] := hcs
    cases cs
    simp at h
    rw [h]
  clear hA0 hval0 hval hA
  simp only [List.append_nil] at hW'
  simp only [List.append_nil] at hAk hlt
  refine (hours_law u1 u2 u3 u4 L c a1 a2 a3 a4 W hL).mono fun e W' ⟨he, hg⟩ => ?_
  subst he
  refine ⟨_, rfl, post_below (pv := []) hW' hg (fun _ _ _ => (trodAll_cons_mk (shut_bool Try.underlying4 _) trodAll_mk0)) (fun sp hsp => ?_) (fun _ _ => rfl) (List.append_nil _).symm
    (ok_one (by kernel_rfl) rfl (okWide_bool_mk Try.underlying4 _))⟩
  rw [Try.params4]
  refine args_stay laid_out hg (fun t ht => ?_) hAk hlt sp (fun x hx => hsp x (by first | exact hx | simpa using hx))
  simp only [List.mem_cons, List.not_mem_nil, or_false] at ht
  rcases ht with rfl | rfl | rfl | rfl | rfl
  · exact rec27
  · exact rec3
  · exact rec3
  · exact rec3
  · exact rec3

theorem hillHours_over : Rows.hillHoursRow.holds Try.pinned (OpenSpec.ofChange Rows.hillHoursSpec) :=
  OpenClaim.holds_of_wide 4 Try.f4 rfl rfl rfl rfl rfl rfl rfl ⟨rfl, rfl, rfl, rfl, rfl⟩ rfl rfl rfl rfl rfl (by kernel_rfl) Try.func4 (by kernel_rfl)
    (of_decide_eq_true (by kernel_rfl)) (by unfold Func.isWrapper; first | (rw [if_pos (by decide +kernel)]; kernel_rfl) | (rw [if_neg (by decide +kernel)]; exact ⟨rfl, rfl⟩))
    (fun os started H enc _ => hillHours_lifted os started H enc)

theorem HillHours_holds : Rows.HillHoursSaid := hillHours_over

end Go.Proofs.Ytlnagjdokfkjoaa
