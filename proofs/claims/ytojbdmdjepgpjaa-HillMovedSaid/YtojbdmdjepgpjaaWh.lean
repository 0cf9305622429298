/-
  WALKS of '(*site).why' and '(*site).free'. Conditions: the stations, the case and the hour are there; the land is without an error.
-/
import Derived.Test.YtojbdmdjepgpjaaSr
import Derived.Test.YtojbdmdjepgpjaaSm
import Derived.Test.YtojbdmdjepgpjaaMi
import Derived.WalkMore
namespace Go.Proofs.Ytojbdmdjepgpjaa
open Go.RowKit

def cloudsI (L : Ld) (a b k h : Int) : List Int := whichB (cloudB (stAt L a) (stAt L b) h) (L.cs[k.toNat]?.getD [])
/-- The reason, and the first wall that blocks. -/
def whyI (L : Ld) (a b k h : Int) : Int × Int :=
  if (snAt L h).u ≤ 0 then (1, 0)
  else if behindL L a b h && (stAt L a).m == 1 then (2, 0)
  else if ridgesI L a b ≠ [] then (3, (ridgesI L a b).headD 0)
  else if cloudsI L a b k h ≠ [] then (4, (cloudsI L a b k h).headD 0)
  else (0, 0)
def freeB (L : Ld) (a b k h : Int) : Bool := (whyI L a b k h).1 == 0

structure Here (L : Ld) (i j h : Nat) : Prop where
  ok : LandOK L
  i : i < L.st.length
  j : j < L.st.length
  h : h < L.sn.length

theorem whichB_head {α : Type} (p : α → Bool) (l : List α) : ∀ y ∈ whichB p l, (whichB p l).headD 0 ≤ y := by
  have h : (whichB p l).Pairwise (fun a b => a ≤ b) := by
    unfold whichB
    refine List.Pairwise.map _ (fun a b hab => ?_) ((List.pairwise_lt_range (n := l.length)).filter _)
    exact Int.ofNat_le.2 (Nat.le_of_lt hab)
  intro y hy
  cases hw : whichB p l with
  | nil => rw [hw] at hy; cases hy
  | cons x r =>
    rw [hw] at hy h
    rcases List.mem_cons.1 hy with rfl | hy
    · exact Int.le_refl _
    · exact (List.pairwise_cons.1 h).1 y hy

theorem sites_cs {L : Ld} {c : List (Value × List Cl)} (he : c.map (·.2) = L.cs) {k : Nat} (hk : k < L.cs.length) : ∃ sv zs, c[k]? = some (sv, zs) ∧ L.cs[k]? = some zs := by
  have hl : c.length = L.cs.length := by rw [← he]; simp
  obtain ⟨x, hx⟩ : ∃ x, c[k]? = some x := ⟨_, List.getElem?_eq_getElem (by omega)⟩
  refine ⟨x.1, x.2, hx, ?_⟩
  rw [← he]
  simp [hx]

set_option maxRecDepth 100000 in
set_option maxHeartbeats 2000000 in
theorem why_any (N : Nat → Prop) (gs gm i j k h : Nat) (v1 v2 v3 v4 : Value) (L : Ld) (c : List (Value × List Cl)) (w : World) (hS : SiteN N w gs gm v1 v2 v3 v4 L c) (hH : Here L i j h) (hk : k < L.cs.length) (hN : ∀ g, N g → g < w.heap.size) :
    Calls Try.prog 48 #[.pointer (some ⟨gs, 0, none⟩), .int .i64 i, .int .i64 j, .int .i64 k, .int .i64 h] w fun e w' =>
      e = .returned (.tuple #[.int .u8 (whyI L i j k h).1, .int .i64 (whyI L i j k h).2]) ∧ SiteN N w' gs gm v1 v2 v3 v4 L c ∧ w.grownBy w' (some gm) := by
  obtain ⟨m0, hA, _⟩ := hS.at
  obtain ⟨s, hs⟩ : ∃ x, L.st[i]? = some x := ⟨_, List.getElem?_eq_getElem hH.i⟩
  obtain ⟨t, ht⟩ : ∃ x, L.st[j]? = some x := ⟨_, List.getElem?_eq_getElem hH.j⟩
  obtain ⟨u, hu⟩ : ∃ x, L.sn[h]? = some x := ⟨_, List.getElem?_eq_getElem hH.h⟩
  obtain ⟨sv, zs, hcz, hLz⟩ := sites_cs hS.land.eq hk
  have hfin : whyI L i j k h = if u.u ≤ 0 then (1, 0) else if behindI u.e u.n s.x s.y t.x t.y && s.m == 1 then (2, 0) else if ridgesI L i j ≠ [] then (3, (ridgesI L i j).headD 0) else if whichB (cloudB s t h) zs ≠ [] then (4, (whichB (cloudB s t h) zs).headD 0) else (0, 0) := by
    unfold whyI behindL cloudsI snAt stAt
    simp [hs, ht, hu, hLz]
  have hso := (hH.ok.st s (List.mem_of_getElem? hs)).1
  have hto := (hH.ok.st t (List.mem_of_getElem? ht)).1
  have hno := hH.ok.sn u (List.mem_of_getElem? hu)
  have hR := hS.land.sn
  obtain ⟨hn4, A4, cap4, rfl, _, _⟩ := hR.form
  obtain ⟨b4, o4, rfl, _, _⟩ := hR.at rfl hu
  have hX := hS.box
  have hh1 : (h : Int) < (L.sn.length : Int) := by have := hH.h; omega
  have hh0 : (0 : Int) ≤ (h : Int) := by omega
  have HR := Lib.hid hR
  have HS := Lib.hid hS
  have HA := Lib.hid hA
  have HO := Lib.hid hH.ok
  have Hs := Lib.hid hs
  have Ht := Lib.hid ht
  have Hu := Lib.hid hu
  have Hcz := Lib.hid hcz
  have Hfin := Lib.hid hfin
  have Hso := Lib.hid hso
  have Hto := Lib.hid hto
  have Hno := Lib.hid hno
  have HN := Lib.hid hN
  clear hS hA hH hk hN hs ht hu hcz hLz hfin hso hto hno hR
  go_enter Try.func48, Try.ntmps48
  go_wp2_with fail
  go_step3
  go_wp2_with fail
  apply wp_region_by 14 [(Fact.eq _), (Fact.eq _), (Fact.eq _), (Fact.eq _), (Fact.eq _), (Fact.eq _), (Fact.eq _), (Fact.eq _), (Fact.eq _), (Fact.eq _), (Fact.eq _), (Fact.eq _), (Fact.box 91 _), (Fact.box 111 _)]
  case hm => kernel_rfl
  case hB => kernel_rfl
  case hA => (intro vs; simp only [List.take_succ_cons, List.take_zero, putAll, if_true, Act.put, List.setIfInBounds_toArray, List.set_cons_zero, List.set_cons_succ]; exact rfl)
  case hstep =>
    intro vs
    refine And.intro (fun w hw hd => ?_) ?_
    · refine ite_yes rfl ?_
      simp only [Gives]
      go_simp
      exact ⟨Below.refl _ _, rfl, fun h => by cases h⟩
    refine And.intro (fun w hw hd => ?_) ?_
    · have d0 := hd 0 (by decide) rfl
      change vs 0 = _ at d0
      refine ite_yes rfl ?_
      simp only [Gives]
      go_simp
      exact ⟨Below.refl _ _, rfl, fun h => by cases h⟩
    refine And.intro (fun w hw hd => ?_) ?_
    · have d1 := hd 1 (by decide) rfl
      change vs 1 = _ at d1
      refine ite_yes rfl ?_
      simp only [Gives]
      go_simp
      exact ⟨Below.refl _ _, rfl, fun h => by cases h⟩
    refine And.intro (fun w hw hd => ?_) ?_
    · have d2 := hd 2 (by decide) rfl
      change vs 2 = _ at d2
      refine ite_yes rfl ?_
      simp only [Gives]
      go_simp
      exact ⟨Below.refl _ _, rfl, fun h => by cases h⟩
    refine And.intro (fun w hw hd => ?_) ?_
    · have d3 := hd 3 (by decide) rfl
      change vs 3 = _ at d3
      refine ite_yes rfl ?_
      have c_hX := fun i => (hX.kept hw).cell i
      simp only [Gives]
      go_simp
      exact ⟨Below.refl _ _, rfl, fun h => by cases h⟩
    refine And.intro (fun w hw hd => ?_) ?_
    · refine ite_yes rfl ?_
      simp only [Gives]
      go_simp
      exact ⟨Below.refl _ _, rfl, fun h => by cases h⟩
    refine And.intro (fun w hw hd => ?_) ?_
    · have d4 := hd 4 (by decide) rfl
      change vs 4 = _ at d4
      have d5 := hd 5 (by decide) rfl
      change vs 5 = _ at d5
      refine ite_yes rfl ?_
      simp only [Gives]
      go_simp
      exact ⟨Below.refl _ _, rfl, fun h => by cases h⟩
    refine And.intro (fun w hw hd => ?_) ?_
    · have d6 := hd 6 (by decide) rfl
      change vs 6 = _ at d6
      refine ite_yes rfl ?_
      have c_hX := fun i => (hX.kept hw).cell i
      have q0 : w.cell? ⟨b4, o4 + h * 3, none⟩ = some (.int .i64 u.e) := (HR.out.kept hw).cellAt Hu.out (j := 0) rfl
      have q1 : w.cell? ⟨b4, o4 + h * 3 + 1, none⟩ = some (.int .i64 u.n) := (HR.out.kept hw).cellAt Hu.out (j := 1) rfl
      have q2 : w.cell? ⟨b4, o4 + h * 3 + 2, none⟩ = some (.int .i64 u.u) := (HR.out.kept hw).cellAt Hu.out (j := 2) rfl
      simp only [Gives]
      go_simp
      exact ⟨Below.refl _ _, rfl, fun h => by cases h⟩
    refine And.intro (fun w hw hd => ?_) ?_
    · refine ite_yes rfl ?_
      simp only [Gives]
      go_simp
      exact ⟨Below.refl _ _, rfl, fun h => by cases h⟩
    refine And.intro (fun w hw hd => ?_) ?_
    · refine ite_yes rfl ?_
      simp only [Gives]
      go_simp
      exact ⟨Below.refl _ _, rfl, fun h => by cases h⟩
    refine And.intro (fun w hw hd => ?_) ?_
    · refine ite_yes rfl ?_
      simp only [Gives]
      go_simp
      exact ⟨Below.refl _ _, rfl, fun h => by cases h⟩
    refine And.intro (fun w hw hd => ?_) ?_
    · have d8 := hd 8 (by decide) rfl
      change vs 8 = _ at d8
      have d9 := hd 9 (by decide) rfl
      change vs 9 = _ at d9
      have d10 := hd 10 (by decide) rfl
      change vs 10 = _ at d10
      refine ite_yes rfl ?_
      simp only [Gives]
      go_simp
      refine (line_any gs gm i j s t v1 v2 v3 _ L c m0 w (HA.out.kept hw) Hs.out Ht.out).mono ?_
      rintro e w1 ⟨rfl, hb⟩
      exact ⟨_, rfl, hb, rfl, fun h => by cases h⟩
    refine And.intro (fun w hw hd => ?_) ?_
    · refine ite_yes rfl ?_
      simp only [Gives]
      go_simp
      exact ⟨(Below.refl _ _).alloc (Nat.le_refl _) _, ⟨_, rfl, Box.new rfl⟩, fun _ => Nat.le_refl _⟩
    refine And.intro (fun w hw hd => ?_) ?_
    · refine ite_yes rfl ?_
      simp only [Gives]
      go_simp
      exact ⟨(Below.refl _ _).alloc (Nat.le_refl _) _, ⟨_, rfl, Box.new rfl⟩, fun _ => Nat.le_refl _⟩
    exact trivial
  intro vs wt hw hd hne hlo
  have d0 := hd 0 (by decide)
  change vs 0 = _ at d0
  have d1 := hd 1 (by decide)
  change vs 1 = _ at d1
  have d2 := hd 2 (by decide)
  change vs 2 = _ at d2
  have d3 := hd 3 (by decide)
  change vs 3 = _ at d3
  have d4 := hd 4 (by decide)
  change vs 4 = _ at d4
  have d5 := hd 5 (by decide)
  change vs 5 = _ at d5
  have d6 := hd 6 (by decide)
  change vs 6 = _ at d6
  have d7 := hd 7 (by decide)
  change vs 7 = _ at d7
  have d8 := hd 8 (by decide)
  change vs 8 = _ at d8
  have d9 := hd 9 (by decide)
  change vs 9 = _ at d9
  have d10 := hd 10 (by decide)
  change vs 10 = _ at d10
  have d11 := hd 11 (by decide)
  change vs 11 = _ at d11
  obtain ⟨n12, d12, N12⟩ := hd 12 (by decide)
  obtain ⟨n13, d13, N13⟩ := hd 13 (by decide)
  have l12 := hlo 12 (by decide) rfl
  have l13 := hlo 13 (by decide) rfl
  have e12_13 := hne 12 13 (by decide) (by decide) (by decide) rfl rfl
  simp only [d12, d13, blk] at l12 l13 e12_13
  simp only [d0, d1, d2, d3, d4, d5, d6, d7, d8, d9, d10, d11, d12, d13, List.drop_succ_cons, List.drop_zero]
  have hX := hX.kept hw
  have c_hX := fun i => hX.cell i
  have f_hX := fun i => hX.free i
  have c_N12 := fun i => N12.cell i
  have f_N12 := fun i => N12.free i
  have c_N13 := fun i => N13.cell i
  have f_N13 := fun i => N13.free i
  clear hd hne hlo d0 d1 d2 d3 d4 d5 d6 d7 d8 d9 d10 d11 d12 d13
  go_wp2_with fail
  go_step3
  go_wp2_with fail
  have B12 : Box (wt.setCell ⟨n12, 0, none⟩ (iv u.e) |>.setCell ⟨n12, 1, none⟩ (iv u.n) |>.setCell ⟨n12, 2, none⟩ (iv u.u)) n12 91 #[iv u.e, iv u.n, iv u.u] := Box.put3 N12
  have N13 : Box (wt.setCell ⟨n12, 0, none⟩ (iv u.e) |>.setCell ⟨n12, 1, none⟩ (iv u.n) |>.setCell ⟨n12, 2, none⟩ (iv u.u)) n13 111 #[iv 0, iv 0, iv 0, iv 0, iv 0, iv 0, iv 0, iv 0] := ((N13.far (p := ⟨n12, 0, none⟩) (fun e => e12_13 e.symm) _).far (p := ⟨n12, 1, none⟩) (fun e => e12_13 e.symm) _).far (p := ⟨n12, 2, none⟩) (fun e => e12_13 e.symm) _
  have B13 := Box.put8 (u0 := iv s.x) (u1 := iv s.y) (u2 := iv s.z) (u3 := iv s.m) (u4 := iv t.x) (u5 := iv t.y) (u6 := iv t.z) (u7 := iv t.m) N13
  have B12 := (((((((B12.far (p := ⟨n13, 0, none⟩) e12_13 (iv s.x)).far (p := ⟨n13, 1, none⟩) e12_13 (iv s.y)).far (p := ⟨n13, 2, none⟩) e12_13 (iv s.z)).far (p := ⟨n13, 3, none⟩) e12_13 (iv s.m)).far (p := ⟨n13, 4, none⟩) e12_13 (iv t.x)).far (p := ⟨n13, 5, none⟩) e12_13 (iv t.y)).far (p := ⟨n13, 6, none⟩) e12_13 (iv t.z)).far (p := ⟨n13, 7, none⟩) e12_13 (iv t.m)
  have hBw := up_put (up_put (up_put (up_put (up_put (up_put (up_put (up_put (up_put (up_put (up_put (up_later up0 hw) (p := ⟨n12, 0, none⟩) l12 (iv u.e)) (p := ⟨n12, 1, none⟩) l12 (iv u.n)) (p := ⟨n12, 2, none⟩) l12 (iv u.u)) (p := ⟨n13, 0, none⟩) l13 (iv s.x)) (p := ⟨n13, 1, none⟩) l13 (iv s.y)) (p := ⟨n13, 2, none⟩) l13 (iv s.z)) (p := ⟨n13, 3, none⟩) l13 (iv s.m)) (p := ⟨n13, 4, none⟩) l13 (iv t.x)) (p := ⟨n13, 5, none⟩) l13 (iv t.y)) (p := ⟨n13, 6, none⟩) l13 (iv t.z)) (p := ⟨n13, 7, none⟩) l13 (iv t.m)
  have HB := Lib.hid hBw
  clear hBw c_hX f_hX c_N12 f_N12 c_N13 f_N13 N12 N13 hX l12 l13 hw HA HR
  go_loopw [10, 14, 28] (fun q10 q14 q28 wr => ∃ r : Nat, r ≤ 5 ∧ q28 = .int .i64 r ∧ (r = 5 → q10 = .int .u8 0) ∧ RowsAt wr q14 1 (fun n => [iv n]) ([] : List Int) ∧
    Hid ((0 < r → 0 < u.u) ∧ (1 < r → (behindI u.e u.n s.x s.y t.x t.y && s.m == 1) = false) ∧ (2 < r → ridgesI L i j = []) ∧ (3 < r → whichB (cloudB s t h) zs = [])) ∧
    Box wr n12 91 #[iv u.e, iv u.n, iv u.u] ∧ Box wr n13 111 #[iv s.x, iv s.y, iv s.z, iv s.m, iv t.x, iv t.y, iv t.z, iv t.m] ∧ Hid (SiteN N wr gs gm v1 v2 v3 (.slice (some ⟨b4, o4, none⟩) L.sn.length cap4) L c) ∧ Hid (w.grownBy wr (some gm))) (fun _ _ q _ => 6 - (intOf q).toNat)
  case atStart => exact ⟨0, by omega, rfl, by omega, RowsAt.nil _, ⟨by omega, by omega, by omega, by omega⟩, B12, B13, HS.out.kept HB.out, grown_below HB.out⟩
  case round =>
    clear HS HB B12 B13
    obtain ⟨r, hr, rfl, h10, hq, hp, B12, B13, hSn, hg⟩ := hrel
    have HQ := Lib.hid hq
    obtain ⟨_, qA, qcap, hqe, _, _⟩ := hq.form
    have c12 := fun i => B12.cell i
    have c13 := fun i => B13.cell i
    clear hq hqe
    have hrr : r = 0 ∨ r = 1 ∨ r = 2 ∨ r = 3 ∨ r = 4 ∨ r = 5 := by omega
    rcases hrr with rfl | rfl | rfl | rfl | rfl | rfl
    · clear h10
      have hix : ∀ w, (Instr.index 128 (.agg #[.int .u8 1, .int .u8 2, .int .u8 3, .int .u8 4, .int .u8 0]) (.int .i64 0)).run Try.prog w = .ok (.int .u8 1) w := fun w => by kernel_rfl
      by_cases hu : u.u ≤ 0
      · have hd : decide (0 < u.u) = false := by simp; omega
        have Hnu := Lib.hid hu
        clear hu
        go_wp2_with fail
        refine (isUp_any _ _ _ _).mono ?_
        rintro e w1 ⟨rfl, hb⟩
        have hS1 := hSn.out.kept hb
        have hG1 := grown_later hg.out hb
        have HQ1 := HQ.out.kept hb
        go_wp2_with fail
        refine (smallest_any _ [] w1 (HQ1) (by simp)).mono ?_
        rintro e w9 ⟨rfl, rfl⟩
        go_wp2_with fail
        rw [Exit.noGoto_ret]
        go_ret2
        exact ⟨by rw [Hfin.out, if_pos Hnu.out]; rfl, hS1, hG1⟩
      · have hd : decide (0 < u.u) = true := by simp; omega
        have Hnu := Lib.hid hu
        clear hu
        go_wp2_with fail
        refine (isUp_any _ _ _ _).mono ?_
        rintro e w1 ⟨rfl, hb⟩
        go_wp2_with fail
        refine ⟨⟨1, by omega, rfl, by omega, HQ.out.kept hb, ⟨fun _ => by have := Hnu.out; omega, by omega, by omega, by omega⟩, B12.kept hb, B13.kept hb, hSn.out.kept hb, grown_later hg.out hb⟩, by simp [intOf]⟩
    · clear h10
      have hix : ∀ w, (Instr.index 128 (.agg #[.int .u8 1, .int .u8 2, .int .u8 3, .int .u8 4, .int .u8 0]) (.int .i64 1)).run Try.prog w = .ok (.int .u8 2) w := fun w => by kernel_rfl
      have hup : ¬ u.u ≤ 0 := by have := hp.out.1 (by omega); omega
      have Hup := Lib.hid hup
      clear hup
      cases hbh : behindI u.e u.n s.x s.y t.x t.y with
      | true =>
        by_cases hm : s.m = 1
        · have hme : (s.m == 1) = true := by simp [hm]
          have Hm := Lib.hid hm
          have Hbh := Lib.hid hbh
          clear hm
          go_wp2_with fail
          refine (behind_any _ _ _ _ _ _ _ _ _ _ _ _ Hso.out.1 Hso.out.2.1 Hto.out.1 Hto.out.2.1 Hno.out.1 Hno.out.2.1).mono ?_
          rintro e w1 ⟨rfl, hb⟩
          have hS1 := hSn.out.kept hb
          have hG1 := grown_later hg.out hb
          have HQ1 := HQ.out.kept hb
          have B13' := B13.kept hb
          have c13 := fun i => B13'.cell i
          go_wp2_with fail
          refine (smallest_any _ [] w1 (HQ1) (by simp)).mono ?_
          rintro e w9 ⟨rfl, rfl⟩
          go_wp2_with fail
          rw [Exit.noGoto_ret]
          go_ret2
          exact ⟨by rw [Hfin.out, if_neg (by have := Hup.out; omega), if_pos (by simp [Hbh.out, Hm.out])]; rfl, hS1, hG1⟩
        · have hme : (s.m == 1) = false := by simp [hm]
          have Hm := Lib.hid hme
          have Hbh := Lib.hid hbh
          clear hm
          go_wp2_with fail
          refine (behind_any _ _ _ _ _ _ _ _ _ _ _ _ Hso.out.1 Hso.out.2.1 Hto.out.1 Hto.out.2.1 Hno.out.1 Hno.out.2.1).mono ?_
          rintro e w1 ⟨rfl, hb⟩
          have B13' := B13.kept hb
          have c13 := fun i => B13'.cell i
          go_wp2_with fail
          refine ⟨⟨2, by omega, rfl, by omega, HQ.out.kept hb, ⟨fun _ => by have := Hup.out; omega, fun _ => by first | rw [Hm.out, Bool.and_false] | rw [Hm.out], by omega, by omega⟩, B12.kept hb, B13.kept hb, hSn.out.kept hb, grown_later hg.out hb⟩, by simp [intOf]⟩
      | false =>
        have Hbh := Lib.hid hbh
        go_wp2_with fail
        refine (behind_any _ _ _ _ _ _ _ _ _ _ _ _ Hso.out.1 Hso.out.2.1 Hto.out.1 Hto.out.2.1 Hno.out.1 Hno.out.2.1).mono ?_
        rintro e w1 ⟨rfl, hb⟩
        go_wp2_with fail
        refine ⟨⟨2, by omega, rfl, by omega, HQ.out.kept hb, ⟨fun _ => by have := Hup.out; omega, fun _ => by first | rfl | rw [Hbh.out, Bool.false_and], by omega, by omega⟩, B12.kept hb, B13.kept hb, hSn.out.kept hb, grown_later hg.out hb⟩, by simp [intOf]⟩
    · clear h10
      have hix : ∀ w, (Instr.index 128 (.agg #[.int .u8 1, .int .u8 2, .int .u8 3, .int .u8 4, .int .u8 0]) (.int .i64 2)).run Try.prog w = .ok (.int .u8 3) w := fun w => by kernel_rfl
      obtain ⟨m1, hA1, hF1⟩ := hSn.out.at
      have HA1 := Lib.hid hA1
      have HF1 := Lib.hid hF1
      clear hA1 hF1
      go_wp2_with fail
      refine (siteRidges_any gs gm i j s t v1 v2 v3 _ L c m1 wr HA1.out HO.out Hs.out Ht.out N (fun g hn => Nat.lt_of_lt_of_le (HN.out g hn) hg.out.size) HF1.out).mono ?_
      rintro e w1 ⟨v, m2, rfl, hrr, hA2, hF2, hg2⟩
      have hS1 := Lib.hid (hA2.n hF2)
      have hG1 := Lib.hid (grown_trans hg.out hg2)
      have hB1 := Lib.hid (B12.stillN hSn.out hg2)
      have hB2 := Lib.hid (B13.stillN hSn.out hg2)
      have HRR := Lib.hid hrr
      obtain ⟨_, vA, vcap, hv, _, _⟩ := hrr.form
      clear hrr hA2 hF2 hg2
      obtain ⟨n, hn⟩ : ∃ n, n = (ridgesI L i j).length := ⟨_, rfl⟩
      rw [← hn] at hv
      subst hv
      by_cases hn0 : n = 0
      · have hri : ridgesI L i j = [] := List.eq_nil_of_length_eq_zero (by omega)
        have Hri := Lib.hid hri
        clear hri hn
        subst hn0
        go_wp2_with fail
        refine ⟨⟨3, by omega, rfl, by omega, by have h := HRR.out; rw [Hri.out] at h; exact h, ⟨fun _ => hp.out.1 (by omega), fun _ => hp.out.2.1 (by omega), fun _ => Hri.out, by omega⟩, hB1.out, hB2.out, hS1.out, hG1.out⟩, by simp [intOf]⟩
      · have hnp : (0 : Int) < (n : Int) := by omega
        have hri : ridgesI L i j ≠ [] := fun e => hn0 (by rw [hn, e]; rfl)
        have Hri := Lib.hid hri
        clear hri hn hn0
        go_wp2_with fail
        refine (smallest_any _ (ridgesI L i j) w1 (HRR.out) (whichB_head _ _)).mono ?_
        rintro e w9 ⟨rfl, rfl⟩
        go_wp2_with fail
        rw [Exit.noGoto_ret]
        go_ret2
        exact ⟨by rw [Hfin.out, if_neg (by have := hp.out.1 (by omega); omega), if_neg (by rw [hp.out.2.1 (by omega)]; simp), if_pos Hri.out, List.headD_eq_head?_getD]; rfl, hS1.out, hG1.out⟩
    · clear h10
      have hix : ∀ w, (Instr.index 128 (.agg #[.int .u8 1, .int .u8 2, .int .u8 3, .int .u8 4, .int .u8 0]) (.int .i64 3)).run Try.prog w = .ok (.int .u8 4) w := fun w => by kernel_rfl
      obtain ⟨m1, hA1, hF1⟩ := hSn.out.at
      have HA1 := Lib.hid hA1
      have HF1 := Lib.hid hF1
      clear hA1 hF1
      go_wp2_with fail
      refine (clouds_any gs gm i j k h s t v1 v2 v3 _ sv L c zs m1 wr HA1.out HO.out Hs.out Ht.out Hcz.out).mono ?_
      rintro e w1 ⟨v, rfl, hrr, hb⟩
      have hS1 := Lib.hid (hSn.out.kept hb)
      have hG1 := Lib.hid (grown_later hg.out hb)
      have hB1 := Lib.hid (B12.kept hb)
      have hB2 := Lib.hid (B13.kept hb)
      have HRR := Lib.hid hrr
      obtain ⟨_, vA, vcap, hv, _, _⟩ := hrr.form
      clear hrr hb
      obtain ⟨n, hn⟩ : ∃ n, n = (whichB (cloudB s t h) zs).length := ⟨_, rfl⟩
      rw [← hn] at hv
      subst hv
      by_cases hn0 : n = 0
      · have hri : whichB (cloudB s t h) zs = [] := List.eq_nil_of_length_eq_zero (by omega)
        have Hri := Lib.hid hri
        clear hri hn
        subst hn0
        go_wp2_with fail
        refine ⟨⟨4, by omega, rfl, by omega, by have h := HRR.out; rw [Hri.out] at h; exact h, ⟨fun _ => hp.out.1 (by omega), fun _ => hp.out.2.1 (by omega), fun _ => hp.out.2.2.1 (by omega), fun _ => Hri.out⟩, hB1.out, hB2.out, hS1.out, hG1.out⟩, by simp [intOf]⟩
      · have hnp : (0 : Int) < (n : Int) := by omega
        have hri : whichB (cloudB s t h) zs ≠ [] := fun e => hn0 (by rw [hn, e]; rfl)
        have Hri := Lib.hid hri
        clear hri hn hn0
        go_wp2_with fail
        refine (smallest_any _ (whichB (cloudB s t h) zs) w1 (HRR.out) (whichB_head _ _)).mono ?_
        rintro e w9 ⟨rfl, rfl⟩
        go_wp2_with fail
        rw [Exit.noGoto_ret]
        go_ret2
        exact ⟨by rw [Hfin.out, if_neg (by have := hp.out.1 (by omega); omega), if_neg (by rw [hp.out.2.1 (by omega)]; simp), if_neg (by rw [hp.out.2.2.1 (by omega)]; simp), if_pos Hri.out, List.headD_eq_head?_getD]; rfl, hS1.out, hG1.out⟩
    · clear h10
      have hix : ∀ w, (Instr.index 128 (.agg #[.int .u8 1, .int .u8 2, .int .u8 3, .int .u8 4, .int .u8 0]) (.int .i64 4)).run Try.prog w = .ok (.int .u8 0) w := fun w => by kernel_rfl
      go_wp2_with fail
      refine ⟨⟨5, by omega, rfl, fun _ => rfl, HQ.out, ⟨fun _ => hp.out.1 (by omega), fun _ => hp.out.2.1 (by omega), fun _ => hp.out.2.2.1 (by omega), fun _ => hp.out.2.2.2 (by omega)⟩, B12, B13, hSn.out, hg.out⟩, by simp [intOf]⟩
    · obtain rfl := h10 rfl
      go_wp2_with fail
      refine (smallest_any _ [] wr (HQ.out) (by simp)).mono ?_
      rintro e w9 ⟨rfl, rfl⟩
      go_wp2_with fail
      rw [Exit.noGoto_ret]
      go_ret2
      exact ⟨by rw [Hfin.out, if_neg (by have := hp.out.1 (by omega); omega), if_neg (by rw [hp.out.2.1 (by omega)]; simp), if_neg (by rw [hp.out.2.2.1 (by omega)]; simp), if_neg (by rw [hp.out.2.2.2 (by omega)]; simp)]; rfl, hSn.out, hg.out⟩

set_option maxRecDepth 100000 in
set_option maxHeartbeats 1000000 in
theorem free_any (N : Nat → Prop) (gs gm i j k h : Nat) (v1 v2 v3 v4 : Value) (L : Ld) (c : List (Value × List Cl)) (w : World) (hS : SiteN N w gs gm v1 v2 v3 v4 L c) (hH : Here L i j h) (hk : k < L.cs.length) (hN : ∀ g, N g → g < w.heap.size) :
    Calls Try.prog 56 #[.pointer (some ⟨gs, 0, none⟩), .int .i64 i, .int .i64 j, .int .i64 k, .int .i64 h] w fun e w' =>
      e = .returned (.bool (freeB L i j k h)) ∧ SiteN N w' gs gm v1 v2 v3 v4 L c ∧ w.grownBy w' (some gm) := by
  have hcall := why_any N gs gm i j k h v1 v2 v3 v4 L c w hS hH hk hN
  unfold freeB
  generalize whyI L i j k h = x at hcall ⊢
  have Hc := Lib.hid hcall
  clear hcall hS hH hk hN
  go_enter Try.func56, Try.ntmps56
  go_wp2_with fail
  refine Hc.out.mono ?_
  rintro e w1 ⟨rfl, hS1, hg⟩
  go_wp2_with fail
  go_ret
  exact ⟨rfl, hS1, hg⟩

end Go.Proofs.Ytojbdmdjepgpjaa
