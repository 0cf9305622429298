/-
  WALKS: the reference's Walls. Conditions: lists have at most 1000 elements; the land is without an error, and what is asked for is there.
-/
import Derived.Test.YtlnagjdokfkjoaaRb
namespace Go.Proofs.Ytlnagjdokfkjoaa
open Go.RowKit

theorem whichB_upto {α : Type} (p : α → Bool) (l : List α) : whichB p l = uptoF (fun m => (l[m]?.map p).getD false) l.length := rfl
theorem upto_hit {α : Type} {p : α → Bool} {l : List α} {m : Nat} {x : α} (hx : l[m]? = some x) (hp : p x = true) : uptoF (fun m => (l[m]?.map p).getD false) (m + 1) = uptoF (fun m => (l[m]?.map p).getD false) m ++ [(m : Int)] := uptoF_yes (by simp [hx, hp])
theorem upto_miss {α : Type} {p : α → Bool} {l : List α} {m : Nat} {x : α} (hx : l[m]? = some x) (hp : p x = false) : uptoF (fun m => (l[m]?.map p).getD false) (m + 1) = uptoF (fun m => (l[m]?.map p).getD false) m := uptoF_no (by simp [hx, hp])

set_option maxRecDepth 100000 in
set_option maxHeartbeats 4000000 in
theorem RWalls_any (v1 v2 v3 v4 : Value) (L : Ld) (c : List (Value × List Cl)) (i j k : Nat) (h : Int) (w : World) (hL : LandAt w v1 v2 v3 v4 L c) (hO : LandOK L) (hi : i < L.st.length) (hj : j < L.st.length) (hk : k < L.cs.length) :
    Calls Try.prog 24 #[.agg #[v1, v2, v3, v4], .int .i64 i, .int .i64 j, .int .i64 k, .int .i64 h] w fun e w' =>
      ∃ u1 u2, e = .returned (.tuple #[u1, u2]) ∧ RowsAt w' u1 1 (fun n => [iv n]) (ridgesI L i j) ∧ RowsAt w' u2 1 (fun n => [iv n]) (cloudsI L i j k h) ∧ Below w.heap.size w w' := by
  obtain ⟨i0', hii, hz0, hz1, hz2⟩ := info_parts int_info
  obtain ⟨s, hs⟩ : ∃ s, L.st[i]? = some s := ⟨_, List.getElem?_eq_getElem hi⟩
  obtain ⟨t, ht⟩ : ∃ s, L.st[j]? = some s := ⟨_, List.getElem?_eq_getElem hj⟩
  obtain ⟨sv, zs, hck, hzs⟩ := sites_cs hL.eq hk
  have HRI := Lib.hid (show ridgesI L i j = uptoF (fun m => (L.rg[m]?.map (blocksW s t)).getD false) L.rg.length by
    unfold ridgesI; rw [whichB_upto]; simp [stAt, hs, ht])
  have HCI := Lib.hid (show cloudsI L i j k h = uptoF (fun m => (zs[m]?.map (cloudB s t h)).getD false) zs.length by
    unfold cloudsI; rw [whichB_upto]; simp [stAt, hs, ht, hzs])
  have hsO := (hO.st s (List.mem_of_getElem? hs)).1
  have htO := (hO.st t (List.mem_of_getElem? ht)).1
  have HsO := Lib.hid hsO
  have HtO := Lib.hid htO
  have HO := Lib.hid hO
  have Hs := Lib.hid hs
  have Ht := Lib.hid ht
  have Hck := Lib.hid hck
  have Hzs := Lib.hid hzs
  have hkc : k < c.length := (List.getElem?_eq_some_iff.1 hck).1
  have HL := Lib.hid hL
  obtain ⟨hn1, A1, cap1, rfl, _, _⟩ := hL.st.form
  obtain ⟨hn2, A2, cap2, rfl, _, _⟩ := hL.rg.form
  obtain ⟨hn3, A3, cap3, rfl, _, _⟩ := hL.cs.form
  obtain ⟨hn4, A4, cap4, rfl, _, _⟩ := hL.sn.form
  have Hcl := Lib.hid (cs_len hL.eq)
  clear hL
  obtain ⟨b1, f1, rfl, -, -⟩ := HL.out.st.at rfl hs
  obtain ⟨b3, f3, rfl, -, -⟩ := HL.out.cs.at rfl hck
  have hE := HL.out.each _ (List.mem_of_getElem? hck)
  obtain ⟨hnz, Az, capz, hsv, _, _⟩ := hE.form
  dsimp only at hsv hE
  subst hsv
  have HE := Lib.hid hE
  have i0 : (0 : Int) ≤ (i : Int) := by omega
  have i1 : (i : Int) < (L.st.length : Int) := by omega
  have j0 : (0 : Int) ≤ (j : Int) := by omega
  have j1 : (j : Int) < (L.st.length : Int) := by omega
  have k0 : (0 : Int) ≤ (k : Int) := by omega
  have k1 : (k : Int) < (c.length : Int) := by omega
  clear hs ht hO hck hzs hE hsO htO hk
  go_enter Try.func24, Try.ntmps24
  go_upto_region 1 with fail
  have B5 := Box.new (w := w) (t := 27) (cs := #[.slice (some ⟨b1, f1, none⟩) L.st.length cap1, .slice A2 L.rg.length cap2, .slice (some ⟨b3, f3, none⟩) c.length cap3, .slice A4 L.sn.length cap4]) rfl
  have HB := Lib.hid (up_alloc (up0 (w := w)) (.cells #[.slice (some ⟨b1, f1, none⟩) L.st.length cap1, .slice A2 L.rg.length cap2, .slice (some ⟨b3, f3, none⟩) c.length cap3, .slice A4 L.sn.length cap4] 27))
  have HR := Lib.hid (HL.out.st.kept HB.out)
  apply wp_region_lets 14 [.val _, .val _, .val _, .val _, .val _, .val _, .val _, .val _, .val _, .val _, .box 74 #[.int .i64 0, .int .i64 0, .int .i64 0, .int .i64 0] #[.int .i64 s.x, .int .i64 s.y, .int .i64 s.z, .int .i64 s.m], .box 74 #[.int .i64 0, .int .i64 0, .int .i64 0, .int .i64 0] #[.int .i64 t.x, .int .i64 t.y, .int .i64 t.z, .int .i64 t.m], .put 10, .put 11]
  case hm => kernel_rfl
  case hB => kernel_rfl
  case hA => (intro vs; simp only [List.take_succ_cons, List.take_zero, putAll, if_true, Act.put, List.setIfInBounds_toArray, List.set_cons_zero, List.set_cons_succ]; exact rfl)
  case hstep =>
    intro vs
    refine And.intro (fun w hw hd => ?_) ?_
    · change if Region.wanted _ _ = true then Gives _ _ _ _ (GotVal _ _) else _
      refine ite_yes rfl ?_
      simp only [Gives]
      go_simp
      exact ⟨rfl, rfl⟩
    refine And.intro (fun w hw hd => ?_) ?_
    · have d0 := hd 0 (by decide) rfl
      change vs 0 = _ at d0
      change if Region.wanted _ _ = true then Gives _ _ _ _ (GotVal _ _) else _
      refine ite_yes rfl ?_
      have c_B5 := fun i => (B5.kept hw).cell i
      simp only [Gives]
      go_simp
      exact ⟨rfl, rfl⟩
    refine And.intro (fun w hw hd => ?_) ?_
    · change if Region.wanted _ _ = true then Gives _ _ _ _ (GotVal _ _) else _
      refine ite_yes rfl ?_
      simp only [Gives]
      go_simp
      exact ⟨rfl, rfl⟩
    refine And.intro (fun w hw hd => ?_) ?_
    · have d1 := hd 1 (by decide) rfl
      change vs 1 = _ at d1
      have d2 := hd 2 (by decide) rfl
      change vs 2 = _ at d2
      change if Region.wanted _ _ = true then Gives _ _ _ _ (GotVal _ _) else _
      refine ite_yes rfl ?_
      simp only [Gives]
      go_simp
      exact ⟨rfl, rfl⟩
    refine And.intro (fun w hw hd => ?_) ?_
    · have d3 := hd 3 (by decide) rfl
      change vs 3 = _ at d3
      change if Region.wanted _ _ = true then Gives _ _ _ _ (GotVal _ _) else _
      refine ite_yes rfl ?_
      have c_B5 := fun i => (B5.kept hw).cell i
      have q0 : w.cell? ⟨b1, f1 + i * 4, none⟩ = some (.int .i64 s.x) := (HR.out.kept hw).cellAt Hs.out (j := 0) rfl
      have q1 : w.cell? ⟨b1, f1 + i * 4 + 1, none⟩ = some (.int .i64 s.y) := (HR.out.kept hw).cellAt Hs.out (j := 1) rfl
      have q2 : w.cell? ⟨b1, f1 + i * 4 + 2, none⟩ = some (.int .i64 s.z) := (HR.out.kept hw).cellAt Hs.out (j := 2) rfl
      have q3 : w.cell? ⟨b1, f1 + i * 4 + 3, none⟩ = some (.int .i64 s.m) := (HR.out.kept hw).cellAt Hs.out (j := 3) rfl
      have r0 : w.cell? ⟨b1, f1 + j * 4, none⟩ = some (.int .i64 t.x) := (HR.out.kept hw).cellAt Ht.out (j := 0) rfl
      have r1 : w.cell? ⟨b1, f1 + j * 4 + 1, none⟩ = some (.int .i64 t.y) := (HR.out.kept hw).cellAt Ht.out (j := 1) rfl
      have r2 : w.cell? ⟨b1, f1 + j * 4 + 2, none⟩ = some (.int .i64 t.z) := (HR.out.kept hw).cellAt Ht.out (j := 2) rfl
      have r3 : w.cell? ⟨b1, f1 + j * 4 + 3, none⟩ = some (.int .i64 t.m) := (HR.out.kept hw).cellAt Ht.out (j := 3) rfl
      simp only [Gives]
      go_simp
      exact ⟨rfl, rfl⟩
    refine And.intro (fun w hw hd => ?_) ?_
    · change if Region.wanted _ _ = true then Gives _ _ _ _ (GotVal _ _) else _
      refine ite_yes rfl ?_
      simp only [Gives]
      go_simp
      exact ⟨rfl, rfl⟩
    refine And.intro (fun w hw hd => ?_) ?_
    · have d5 := hd 5 (by decide) rfl
      change vs 5 = _ at d5
      change if Region.wanted _ _ = true then Gives _ _ _ _ (GotVal _ _) else _
      refine ite_yes rfl ?_
      have c_B5 := fun i => (B5.kept hw).cell i
      simp only [Gives]
      go_simp
      exact ⟨rfl, rfl⟩
    refine And.intro (fun w hw hd => ?_) ?_
    · change if Region.wanted _ _ = true then Gives _ _ _ _ (GotVal _ _) else _
      refine ite_yes rfl ?_
      simp only [Gives]
      go_simp
      exact ⟨rfl, rfl⟩
    refine And.intro (fun w hw hd => ?_) ?_
    · have d6 := hd 6 (by decide) rfl
      change vs 6 = _ at d6
      have d7 := hd 7 (by decide) rfl
      change vs 7 = _ at d7
      change if Region.wanted _ _ = true then Gives _ _ _ _ (GotVal _ _) else _
      refine ite_yes rfl ?_
      simp only [Gives]
      go_simp
      exact ⟨rfl, rfl⟩
    refine And.intro (fun w hw hd => ?_) ?_
    · have d8 := hd 8 (by decide) rfl
      change vs 8 = _ at d8
      change if Region.wanted _ _ = true then Gives _ _ _ _ (GotVal _ _) else _
      refine ite_yes rfl ?_
      have c_B5 := fun i => (B5.kept hw).cell i
      have q0 : w.cell? ⟨b1, f1 + i * 4, none⟩ = some (.int .i64 s.x) := (HR.out.kept hw).cellAt Hs.out (j := 0) rfl
      have q1 : w.cell? ⟨b1, f1 + i * 4 + 1, none⟩ = some (.int .i64 s.y) := (HR.out.kept hw).cellAt Hs.out (j := 1) rfl
      have q2 : w.cell? ⟨b1, f1 + i * 4 + 2, none⟩ = some (.int .i64 s.z) := (HR.out.kept hw).cellAt Hs.out (j := 2) rfl
      have q3 : w.cell? ⟨b1, f1 + i * 4 + 3, none⟩ = some (.int .i64 s.m) := (HR.out.kept hw).cellAt Hs.out (j := 3) rfl
      have r0 : w.cell? ⟨b1, f1 + j * 4, none⟩ = some (.int .i64 t.x) := (HR.out.kept hw).cellAt Ht.out (j := 0) rfl
      have r1 : w.cell? ⟨b1, f1 + j * 4 + 1, none⟩ = some (.int .i64 t.y) := (HR.out.kept hw).cellAt Ht.out (j := 1) rfl
      have r2 : w.cell? ⟨b1, f1 + j * 4 + 2, none⟩ = some (.int .i64 t.z) := (HR.out.kept hw).cellAt Ht.out (j := 2) rfl
      have r3 : w.cell? ⟨b1, f1 + j * 4 + 3, none⟩ = some (.int .i64 t.m) := (HR.out.kept hw).cellAt Ht.out (j := 3) rfl
      simp only [Gives]
      go_simp
      exact ⟨rfl, rfl⟩
    refine And.intro (fun w hw hd => ?_) ?_
    · refine And.intro rfl ?_
      change Gives _ _ _ _ (GotBox _ _ _)
      simp only [Gives]
      go_simp
      exact ⟨rfl, rfl⟩
    refine And.intro (fun w hw hd => ?_) ?_
    · refine And.intro rfl ?_
      change Gives _ _ _ _ (GotBox _ _ _)
      simp only [Gives]
      go_simp
      exact ⟨rfl, rfl⟩
    refine And.intro (fun w hw hd => ?_) ?_
    · have d4 := hd 4 (by decide) rfl
      change vs 4 = _ at d4
      refine And.intro rfl (fun g hg hb => ?_)
      change vs 10 = _ at hg
      have c_b := fun i => hb.cell i
      have f_b := fun i => hb.free i
      have l_b := hb.lt
      change Gives _ _ _ _ (fun _ w' => Fill _ _ _ w w')
      simp only [Gives]
      go_simp
      exact fill4 hb
    refine And.intro (fun w hw hd => ?_) ?_
    · have d9 := hd 9 (by decide) rfl
      change vs 9 = _ at d9
      refine And.intro rfl (fun g hg hb => ?_)
      change vs 11 = _ at hg
      have c_b := fun i => hb.cell i
      have f_b := fun i => hb.free i
      have l_b := hb.lt
      change Gives _ _ _ _ (fun _ w' => Fill _ _ _ w w')
      simp only [Gives]
      go_simp
      exact fill4 hb
    exact trivial
  case hK => kernel_rfl
  intro vs wt hw hd hap
  have d0 := hd 0 (by decide)
  change vs 0 = _ at d0
  have d1 := hd 1 (by decide)
  change vs 1 = _ at d1
  have d2 := hd 2 (by decide)
  change vs 2 = _ at d2
  have d3 := hd 3 (by decide)
  change vs 3 = _ at d3
  have d4 := hd 4 (by decide)
  change vs 4 = _ at d4
  have d5 := hd 5 (by decide)
  change vs 5 = _ at d5
  have d6 := hd 6 (by decide)
  change vs 6 = _ at d6
  have d7 := hd 7 (by decide)
  change vs 7 = _ at d7
  have d8 := hd 8 (by decide)
  change vs 8 = _ at d8
  have d9 := hd 9 (by decide)
  change vs 9 = _ at d9
  obtain ⟨n10, d10, l10, _, N10⟩ := hd 10 (by decide)
  change Box wt n10 74 #[.int .i64 s.x, .int .i64 s.y, .int .i64 s.z, .int .i64 s.m] at N10
  obtain ⟨n11, d11, l11, _, N11⟩ := hd 11 (by decide)
  change Box wt n11 74 #[.int .i64 t.x, .int .i64 t.y, .int .i64 t.z, .int .i64 t.m] at N11
  have e10_11 := hap 10 11 (by decide) (by decide) (by decide) rfl rfl
  simp only [d10, d11, blk] at e10_11
  simp only [Nat.zero_add, Nat.reduceAdd, d0, d1, d2, d3, d4, d5, d6, d7, d8, d9, d10, d11, List.drop_succ_cons, List.drop_nil]
  have B5 := B5.kept hw
  have c_B5 := fun i => B5.cell i
  have f_B5 := fun i => B5.free i
  have c_N10 := fun i => N10.cell i
  have f_N10 := fun i => N10.free i
  have c_N11 := fun i => N11.cell i
  have f_N11 := fun i => N11.free i
  clear hd hap d0 d1 d2 d3 d4 d5 d6 d7 d8 d9 d10 d11
  have HB := Lib.hid (up_later HB.out hw)
  have HLt := Lib.hid (HL.out.kept HB.out)
  have HEt := Lib.hid (HE.out.kept HB.out)
  have HB5 := Lib.hid B5
  have HN10 := Lib.hid N10
  have HN11 := Lib.hid N11
  clear B5 N10 N11 c_B5 f_B5 c_N10 c_N11 f_N10 f_N11 hw HL HE HR
  rename World => W0
  clear l10 l11 e10_11
  go_wp2_with fail
  go_loopw [14, 16] (fun v q wr => ∃ m : Nat, m ≤ L.rg.length ∧ q = .int .i64 m ∧ wr.ownsRow W0.heap.size 3 1 v (uptoF (fun m => (L.rg[m]?.map (blocksW s t)).getD false) m).length ((uptoF (fun m => (L.rg[m]?.map (blocksW s t)).getD false) m).map iv) ∧ Hid (Below W0.heap.size W0 wr)) (fun _ q _ => L.rg.length - (intOf q).toNat)
  case atStart => exact ⟨0, by omega, rfl, World.ownsRow_nil _ _ _ _, up0⟩
  case round =>
    obtain ⟨m, hm, rfl, hown, hb⟩ := hrel
    have HOW := Lib.hid hown
    have B5 := HB5.out.kept hb.out
    have m0 : (0 : Int) ≤ (m : Int) := by omega
    clear hown
    by_cases hlt : m < L.rg.length
    · obtain ⟨x, hx⟩ : ∃ x, L.rg[m]? = some x := ⟨_, List.getElem?_eq_getElem hlt⟩
      have Hx := Lib.hid hx
      have m1 : (m : Int) < (L.rg.length : Int) := by omega
      have N10 := HN10.out.kept hb.out
      have N11 := HN11.out.kept hb.out
      have HG := Lib.hid (HLt.out.rg.kept hb.out)
      obtain ⟨b2, f2, rfl, -, -⟩ := HG.out.at rfl hx
      have hlen := uptoF_length (p := fun m => (L.rg[m]?.map (blocksW s t)).getD false) (k := m)
      have hxO := HO.out.rg x (List.mem_of_getElem? hx)
      have HXO := Lib.hid hxO
      clear hx hxO
      have c_B5 := fun i => B5.cell i
      go_wp2_with fail
      clear c_B5
      apply wp_region_by 8 [(Fact.eq _), (Fact.eq _), (Fact.eq _), (Fact.eq _), (Fact.eq _), (Fact.eq _), (Fact.eq _), (Fact.eq _)]
      case hm => kernel_rfl
      case hB => kernel_rfl
      case hA => (intro vs; simp only [List.take_succ_cons, List.take_zero, putAll, if_true, Act.put, List.setIfInBounds_toArray, List.set_cons_zero, List.set_cons_succ]; exact rfl)
      case hstep =>
        intro vs
        refine And.intro (fun w hw hd => ?_) ?_
        · refine ite_yes rfl ?_
          simp only [Gives]
          go_simp
          exact ⟨Below.refl _ _, rfl, fun h => by cases h⟩
        refine And.intro (fun w hw hd => ?_) ?_
        · have d0 := hd 0 (by decide) rfl
          change vs 0 = _ at d0
          refine ite_yes rfl ?_
          have c_B5 := fun i => (B5.kept hw).cell i
          have c_N10 := fun i => (N10.kept hw).cell i
          have c_N11 := fun i => (N11.kept hw).cell i
          simp only [Gives]
          go_simp
          exact ⟨Below.refl _ _, rfl, fun h => by cases h⟩
        refine And.intro (fun w hw hd => ?_) ?_
        · refine ite_yes rfl ?_
          simp only [Gives]
          go_simp
          exact ⟨Below.refl _ _, rfl, fun h => by cases h⟩
        refine And.intro (fun w hw hd => ?_) ?_
        · have d1 := hd 1 (by decide) rfl
          change vs 1 = _ at d1
          have d2 := hd 2 (by decide) rfl
          change vs 2 = _ at d2
          refine ite_yes rfl ?_
          simp only [Gives]
          go_simp
          exact ⟨Below.refl _ _, rfl, fun h => by cases h⟩
        refine And.intro (fun w hw hd => ?_) ?_
        · have d3 := hd 3 (by decide) rfl
          change vs 3 = _ at d3
          refine ite_yes rfl ?_
          have c_B5 := fun i => (B5.kept hw).cell i
          have c_N10 := fun i => (N10.kept hw).cell i
          have c_N11 := fun i => (N11.kept hw).cell i
          have q0 : w.cell? ⟨b2, f2 + m * 6, none⟩ = some (.int .i64 x.x1) := (HG.out.kept hw).cellAt Hx.out (j := 0) rfl
          have q1 : w.cell? ⟨b2, f2 + m * 6 + 1, none⟩ = some (.int .i64 x.y1) := (HG.out.kept hw).cellAt Hx.out (j := 1) rfl
          have q2 : w.cell? ⟨b2, f2 + m * 6 + 2, none⟩ = some (.int .i64 x.x2) := (HG.out.kept hw).cellAt Hx.out (j := 2) rfl
          have q3 : w.cell? ⟨b2, f2 + m * 6 + 3, none⟩ = some (.int .i64 x.y2) := (HG.out.kept hw).cellAt Hx.out (j := 3) rfl
          have q4 : w.cell? ⟨b2, f2 + m * 6 + 4, none⟩ = some (.int .i64 x.b) := (HG.out.kept hw).cellAt Hx.out (j := 4) rfl
          have q5 : w.cell? ⟨b2, f2 + m * 6 + 5, none⟩ = some (.int .i64 x.t) := (HG.out.kept hw).cellAt Hx.out (j := 5) rfl
          simp only [Gives]
          go_simp
          exact ⟨Below.refl _ _, rfl, fun h => by cases h⟩
        refine And.intro (fun w hw hd => ?_) ?_
        · refine ite_yes rfl ?_
          have c_B5 := fun i => (B5.kept hw).cell i
          have c_N10 := fun i => (N10.kept hw).cell i
          have c_N11 := fun i => (N11.kept hw).cell i
          simp only [Gives]
          go_simp
          exact ⟨Below.refl _ _, rfl, fun h => by cases h⟩
        refine And.intro (fun w hw hd => ?_) ?_
        · refine ite_yes rfl ?_
          have c_B5 := fun i => (B5.kept hw).cell i
          have c_N10 := fun i => (N10.kept hw).cell i
          have c_N11 := fun i => (N11.kept hw).cell i
          simp only [Gives]
          go_simp
          exact ⟨Below.refl _ _, rfl, fun h => by cases h⟩
        refine And.intro (fun w hw hd => ?_) ?_
        · have d4 := hd 4 (by decide) rfl
          change vs 4 = _ at d4
          have d5 := hd 5 (by decide) rfl
          change vs 5 = _ at d5
          have d6 := hd 6 (by decide) rfl
          change vs 6 = _ at d6
          refine ite_yes rfl ?_
          simp only [Gives]
          go_simp
          refine (RBlocks_any x s t _ HXO.out HsO.out HtO.out).mono ?_
          rintro e w1 ⟨rfl, hb⟩
          exact ⟨_, rfl, hb, rfl, fun h => by cases h⟩
        exact trivial
      intro vs wt hw hd hne hlo
      have d0 := hd 0 (by decide)
      change vs 0 = _ at d0
      have d1 := hd 1 (by decide)
      change vs 1 = _ at d1
      have d2 := hd 2 (by decide)
      change vs 2 = _ at d2
      have d3 := hd 3 (by decide)
      change vs 3 = _ at d3
      have d4 := hd 4 (by decide)
      change vs 4 = _ at d4
      have d5 := hd 5 (by decide)
      change vs 5 = _ at d5
      have d6 := hd 6 (by decide)
      change vs 6 = _ at d6
      have d7 := hd 7 (by decide)
      change vs 7 = _ at d7
      simp only [d0, d1, d2, d3, d4, d5, d6, d7, List.drop_succ_cons, List.drop_nil]
      have B5 := B5.kept hw
      have N10 := N10.kept hw
      have N11 := N11.kept hw
      have c_B5 := fun i => B5.cell i
      have f_B5 := fun i => B5.free i
      have c_N10 := fun i => N10.cell i
      have f_N10 := fun i => N10.free i
      have c_N11 := fun i => N11.cell i
      have f_N11 := fun i => N11.free i
      clear hd hne hlo d0 d1 d2 d3 d4 d5 d6 d7
      have hb2 := Lib.hid (up_later hb.out hw)
      have hsz := hb2.out.size
      have hown := own_below HOW.out hw
      have HOW := Lib.hid hown
      clear hw B5 N10 N11 c_B5 f_B5 c_N10 f_N10 c_N11 f_N11 hb
      cases hp : blocksW s t x with
      | true =>
        have Hu := Lib.hid (upto_hit Hx.out hp)
        clear hp
        go_wp2_with (at_builtin; refine wpList_append_own_at _ rfl _ _ 41 rfl W0.heap.size 3 i0' (.int .i64 0) 1 8 Try.underlying41 hii hz0 hz1 hz2 rfl (by decide) _ _ _ rfl (hown.alloc _) ⟨wt.heap.size, 0, none⟩ 1 1 [.int .i64 m] rfl rfl (cell_one_new _ _ _) (by simp [Value.oneCell']) (by unfold maxLen; omega) (by omega) (by simp; omega) ?_; intro v' w2 hown' hgrow _ hat)
        refine ⟨⟨m + 1, by omega, by go_num, ?_, (up_alloc hb2.out (.cells #[iv m] 3)).grown hgrow (by simp; omega) fun g e => (HOW.out.lt g e).1⟩, by simp [intOf]; omega⟩
        rw [Hu.out]
        simpa using hown'
      | false =>
        have Hu := Lib.hid (upto_miss Hx.out hp)
        clear hp
        go_wp2_with fail
        exact ⟨⟨m + 1, by omega, by go_num, by rw [Hu.out]; exact HOW.out, hb2.out⟩, by simp [intOf]; omega⟩
    · obtain rfl : m = L.rg.length := by omega
      have hlen := uptoF_length (p := fun m => (L.rg[m]?.map (blocksW s t)).getD false) (k := L.rg.length)
      have HR1 := Lib.hid (RowsAt.of_own HOW.out (by omega))
      obtain ⟨P1, p1, p2, rfl⟩ := own_form HOW.out
      have HB := Lib.hid ((HB.out).trans (hb.out.mono HB.out.size))
      have HZ := Lib.hid (HEt.out.kept hb.out)
      have HC := Lib.hid (HLt.out.cs.kept hb.out)
      have HB5 := Lib.hid B5
      have HN10 := Lib.hid (HN10.out.kept hb.out)
      have HN11 := Lib.hid (HN11.out.kept hb.out)
      obtain ⟨W1, hW1⟩ : ∃ W1, W1 = wr := ⟨_, rfl⟩
      subst hW1
      have c_B5 := fun i => B5.cell i
      go_wp2_with fail
      clear c_B5 B5 HOW hb
      go_loopw [15, 17] (fun v q wr => ∃ m : Nat, m ≤ zs.length ∧ q = .int .i64 m ∧ wr.ownsRow W1.heap.size 3 1 v (uptoF (fun m => (zs[m]?.map (cloudB s t h)).getD false) m).length ((uptoF (fun m => (zs[m]?.map (cloudB s t h)).getD false) m).map iv) ∧ Hid (Below W1.heap.size W1 wr)) (fun _ q _ => zs.length - (intOf q).toNat)
      case atStart => exact ⟨0, by omega, rfl, World.ownsRow_nil _ _ _ _, up0⟩
      case round =>
        obtain ⟨m, hm, rfl, hown, hb⟩ := hrel
        have HOW := Lib.hid hown
        have B5 := HB5.out.kept hb.out
        have m0 : (0 : Int) ≤ (m : Int) := by omega
        have q9 : wr.cell? ⟨b3, f3 + k, none⟩ = some (.slice Az zs.length capz) := by simpa using (HC.out.kept hb.out).cellAt Hck.out (j := 0) rfl
        have c_B5 := fun i => B5.cell i
        clear hown
        by_cases hlt : m < zs.length
        · obtain ⟨x, hx⟩ : ∃ x, zs[m]? = some x := ⟨_, List.getElem?_eq_getElem hlt⟩
          have Hx := Lib.hid hx
          have m1 : (m : Int) < (zs.length : Int) := by omega
          have HN10' := Lib.hid (HN10.out.kept hb.out)
          have HN11' := Lib.hid (HN11.out.kept hb.out)
          have hG := HZ.out.kept hb.out
          obtain ⟨bz, fz, rfl, hbz, -⟩ := hG.at rfl hx
          have r0 : wr.cell? ⟨bz, fz + m * 8, none⟩ = some (.int .i64 x.w.x1) := hG.cellAt hx (j := 0) rfl
          have r1 : wr.cell? ⟨bz, fz + m * 8 + 1, none⟩ = some (.int .i64 x.w.y1) := hG.cellAt hx (j := 1) rfl
          have r2 : wr.cell? ⟨bz, fz + m * 8 + 2, none⟩ = some (.int .i64 x.w.x2) := hG.cellAt hx (j := 2) rfl
          have r3 : wr.cell? ⟨bz, fz + m * 8 + 3, none⟩ = some (.int .i64 x.w.y2) := hG.cellAt hx (j := 3) rfl
          have r4 : wr.cell? ⟨bz, fz + m * 8 + 4, none⟩ = some (.int .i64 x.w.b) := hG.cellAt hx (j := 4) rfl
          have r5 : wr.cell? ⟨bz, fz + m * 8 + 5, none⟩ = some (.int .i64 x.w.t) := hG.cellAt hx (j := 5) rfl
          have r6 : wr.cell? ⟨bz, fz + m * 8 + 6, none⟩ = some (.int .i64 x.f) := hG.cellAt hx (j := 6) rfl
          have r7 : wr.cell? ⟨bz, fz + m * 8 + 7, none⟩ = some (.int .i64 x.t) := hG.cellAt hx (j := 7) rfl
          have hlen := uptoF_length (p := fun m => (zs[m]?.map (cloudB s t h)).getD false) (k := m)
          have hxO := HO.out.cs zs (List.mem_of_getElem? Hzs.out) x (List.mem_of_getElem? hx)
          have HXO := Lib.hid hxO
          clear hx hxO hG
          have N18 := Lib.hid (Box.new (w := wr) (t := 82) (cs := #[iv x.w.x1, iv x.w.y1, iv x.w.x2, iv x.w.y2, iv x.w.b, iv x.w.t, iv x.f, iv x.t]) rfl)
          have hB2 := Lib.hid (up_alloc hb.out (.cells #[iv x.w.x1, iv x.w.y1, iv x.w.x2, iv x.w.y2, iv x.w.b, iv x.w.t, iv x.f, iv x.t] 82))
          have HN10 := Lib.hid (HN10'.out.kept (up_alloc up0 (.cells #[iv x.w.x1, iv x.w.y1, iv x.w.x2, iv x.w.y2, iv x.w.b, iv x.w.t, iv x.f, iv x.t] 82)))
          have HN11 := Lib.hid (HN11'.out.kept (up_alloc up0 (.cells #[iv x.w.x1, iv x.w.y1, iv x.w.x2, iv x.w.y2, iv x.w.b, iv x.w.t, iv x.f, iv x.t] 82)))
          have HOW := Lib.hid (own_below HOW.out (up_alloc up0 (.cells #[iv x.w.x1, iv x.w.y1, iv x.w.x2, iv x.w.y2, iv x.w.b, iv x.w.t, iv x.f, iv x.t] 82)))
          clear HN10' HN11'
          cases hin : inB x.f x.t h with
          | false =>
            have Hu := Lib.hid (upto_miss Hx.out (by unfold cloudB; rw [hin]; rfl : cloudB s t h x = false))
            have Hin := Lib.hid hin
            clear hin
            go_wp2_with (go_at_call 32; refine (In_any _ _ _ _).mono ?_; rintro e w1 ⟨rfl, rfl⟩; rw [Hin.out])
            exact ⟨⟨m + 1, by omega, by go_num, by rw [Hu.out]; exact HOW.out, hB2.out⟩, by simp [intOf]; omega⟩
          | true =>
            have Hin := Lib.hid hin
            have N10 := HN10.out
            have N11 := HN11.out
            have c10 := fun i => N10.cell i
            have c11 := fun i => N11.cell i
            cases hp : blocksW s t x.w with
            | false =>
              have Hu := Lib.hid (upto_miss Hx.out (by unfold cloudB; rw [hin, hp]; rfl : cloudB s t h x = false))
              have Hp := Lib.hid hp
              clear hin hp
              go_wp2_with (go_at_call 32; refine (In_any _ _ _ _).mono ?_; rintro e w1 ⟨rfl, rfl⟩; rw [Hin.out])
              refine (RBlocks_any x.w s t _ HXO.out HsO.out HtO.out).mono ?_
              rintro e w3 ⟨rfl, hb3⟩
              rw [Hp.out]
              go_wp2_with fail
              exact ⟨⟨m + 1, by omega, by go_num, by rw [Hu.out]; exact own_below HOW.out hb3, up_later hB2.out hb3⟩, by simp [intOf]; omega⟩
            | true =>
              have Hu := Lib.hid (upto_hit Hx.out (by unfold cloudB; rw [hin, hp]; rfl : cloudB s t h x = true))
              have Hp := Lib.hid hp
              clear hin hp
              go_wp2_with (go_at_call 32; refine (In_any _ _ _ _).mono ?_; rintro e w1 ⟨rfl, rfl⟩; rw [Hin.out])
              refine (RBlocks_any x.w s t _ HXO.out HsO.out HtO.out).mono ?_
              rintro e w3 ⟨rfl, hb3⟩
              rw [Hp.out]
              have hown := own_below HOW.out hb3
              have HOW := Lib.hid hown
              have hB3 := Lib.hid (up_later hB2.out hb3)
              have hsz := hB3.out.size
              clear c10 c11 N10 N11 c_B5 B5 hb3
              go_wp2_with (at_builtin; refine wpList_append_own_at _ rfl _ _ 41 rfl W1.heap.size 3 i0' (.int .i64 0) 1 8 Try.underlying41 hii hz0 hz1 hz2 rfl (by decide) _ _ _ rfl (hown.alloc _) ⟨w3.heap.size, 0, none⟩ 1 1 [.int .i64 m] rfl rfl (cell_one_new _ _ _) (by simp [Value.oneCell']) (by unfold maxLen; omega) (by omega) (by simp; omega) ?_; intro v' w4 hown' hgrow _ hat)
              refine ⟨⟨m + 1, by omega, by go_num, ?_, (up_alloc hB3.out (.cells #[iv m] 3)).grown hgrow (by simp; omega) fun g e => (HOW.out.lt g e).1⟩, by simp [intOf]; omega⟩
              rw [Hu.out]
              simpa using hown'
        · obtain rfl : m = zs.length := by omega
          have hlen := uptoF_length (p := fun m => (zs[m]?.map (cloudB s t h)).getD false) (k := zs.length)
          have HR2 := Lib.hid (RowsAt.of_own HOW.out (by omega))
          go_wp2_with fail
          go_ret2
          refine ⟨_, _, rfl, by rw [HRI.out]; exact HR1.out.kept hb.out, by rw [HCI.out]; exact HR2.out, (HB.out).trans (hb.out.mono HB.out.size)⟩

end Go.Proofs.Ytlnagjdokfkjoaa
