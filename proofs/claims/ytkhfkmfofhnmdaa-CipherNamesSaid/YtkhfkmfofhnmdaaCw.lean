/-
  WALK of the function that '(desk).best' calls again and again, where days are left over. Conditions: the map holds best plans alone; the function does what it says for fewer days.
-/
import Derived.Test.YtkhfkmfofhnmdaaCv
namespace Go.Proofs.Ytkhfkmfofhnmdaa
open Go.RowKit

/-- What a call for the days behind hands back. -/
def ExtV (gm : Nat) (b : Bk) (ls : List Ls) (most : Int) (r : Nat) (x : Eve) (m : List (Eve × Value)) (v : Value) (w w' : World) : Prop :=
  ∃ u m', v = .agg #[u, iv (planI b ls most r x).2] ∧ OwnI w' u (planI b ls most r x).1 ∧ w.grownBy w' (some gm) ∧ MapAt w' gm m' ∧ KnownOK b ls most w' m' ∧ ∀ k : Eve, k.day < x.day → look m k = none → look m' k = none
theorem extV_grown {gm : Nat} {b : Bk} {ls : List Ls} {most : Int} {r : Nat} {x : Eve} {m : List (Eve × Value)} : ∀ v a c, ExtV gm b ls most r x m v a c → a.grownBy c (some gm) := fun _ _ _ ⟨_, _, _, _, h, _⟩ => h
theorem used_at {x : Eve} {k : Nat} (hk : k < 5) : [iv x.day, iv x.last, iv x.a, iv x.b, iv x.c, iv x.d, iv x.e][2 + k]? = some (iv (x.used k)) := by
  have hkk : k = 0 ∨ k = 1 ∨ k = 2 ∨ k = 3 ∨ k = 4 := by omega
  rcases hkk with rfl | rfl | rfl | rfl | rfl <;> rfl
theorem next_day (x : Eve) (k : Nat) : (x.next k).day = x.day + 1 := by rcases k with _ | _ | _ | _ | k <;> rfl
/-- What is so in each round: B1 is the block of the day, B2 that of the result. -/
structure RoundI (gm : Nat) (b : Bk) (ls : List Ls) (most : Int) (x : Eve) (m : List (Eve × Value)) (w : World) (B1 B2 : Nat) (wr : World) (m' : List (Eve × Value)) : Prop where
  map : MapAt wr gm m'
  known : KnownOK b ls most wr m'
  new : ∀ q : Eve, q.day ≤ x.day → look m q = none → look m' q = none
  gr : w.grownBy wr (some gm)
  eve : Box wr B1 147 #[iv x.day, iv x.last, iv x.a, iv x.b, iv x.c, iv x.d, iv x.e]
  res : Box wr B2 113 #[.slice none 0 0, iv 0]
section
variable {gm : Nat} {b : Bk} {ls : List Ls} {most : Int} {x : Eve} {m m' m2 : List (Eve × Value)} {w wr w' : World} {B1 B2 : Nat}
theorem RoundI.kept (h : RoundI gm b ls most x m w B1 B2 wr m') (hb : Below wr.heap.size wr w') : RoundI gm b ls most x m w B1 B2 w' m' :=
  ⟨h.map.kept hb, h.known.kept hb, h.new, grown_later h.gr hb, h.eve.kept hb, h.res.kept hb⟩
theorem RoundI.grow (h : RoundI gm b ls most x m w B1 B2 wr m') (hg : wr.grownBy w' (some gm)) (hm : MapAt w' gm m2) (hk : KnownOK b ls most w' m2) (hn : ∀ q : Eve, q.day < x.day + 1 → look m' q = none → look m2 q = none) : RoundI gm b ls most x m w B1 B2 w' m2 :=
  ⟨hm, hk, fun q hq hl => hn q (by omega) (h.new q hq hl), grown_tr h.gr hg, h.eve.grown hg (h.eve.ne_map h.map), h.res.grown hg (h.res.ne_map h.map)⟩
theorem RoundI.put {B i : Nat} {cs : Array Value} {u : Value} (h : RoundI gm b ls most x m w B1 B2 wr m') (hb : Box wr B 113 cs) (h1 : B1 ≠ B) (h2 : B2 ≠ B) (h3 : w.heap.size ≤ B) : RoundI gm b ls most x m w B1 B2 (wr.setCell ⟨B, i, none⟩ u) m' :=
  ⟨h.map.put hb, h.known.put hb (by decide), h.new, ⟨h.gr.os, h.gr.tape, h.gr.output, by simpa using h.gr.size, fun k hk hne => (Below.heap_setCell _ ⟨B, i, none⟩ _ k (by simp; omega)).trans (h.gr.block k hk hne)⟩,
    h.eve.far (p := ⟨B, i, none⟩) h1 _, h.res.far (p := ⟨B, i, none⟩) h2 _⟩
/-- The plan p lies in block B. -/
structure PlanIn (w : World) (B : Nat) (v : Value) (p : List Int × Int) : Prop where
  box : Box w B 113 #[v, iv p.2]
  own : OwnI w v p.1
theorem PlanIn.kept {B : Nat} {v : Value} {p : List Int × Int} (h : PlanIn wr B v p) (hb : Below wr.heap.size wr w') : PlanIn w' B v p := ⟨h.box.kept hb, own_below h.own hb⟩
theorem PlanIn.grown {B : Nat} {v : Value} {p : List Int × Int} (h : PlanIn wr B v p) (hm : MapAt wr gm m) (hg : wr.grownBy w' (some gm)) : PlanIn w' B v p := ⟨h.box.grown hg (h.box.ne_map hm), h.own.grown hm hg⟩
theorem PlanIn.put {B C i : Nat} {cs : Array Value} {u v : Value} {p : List Int × Int} (h : PlanIn wr B v p) (hb : Box wr C 113 cs) (hne : B ≠ C) : PlanIn (wr.setCell ⟨C, i, none⟩ u) B v p := ⟨h.box.far (p := ⟨C, i, none⟩) hne _, h.own.put hb (by decide)⟩
end

theorem look_more {m : List (Eve × Value)} {k x : Eve} {v : Value} (h : look m k = none) (hs : k.same x = false) : look (m ++ [(x, v)]) k = none := by
  unfold look at h ⊢
  simp only [Option.map_eq_none_iff] at h ⊢
  rw [List.find?_append, h]
  simp [hs]
theorem isFree_is (n ws : Int) (v1 : Value) (A2 : Option Addr) (n2 c2 : Nat) (v3 : Value) (ls : List Ls) (key day : Int) (q : Bool) (hq : freeB n2 ls key day = q) (w : World) (hl : RowsAt w v3 2 Ls.cells ls) :
    Calls Try.prog 102 #[.agg #[iv n, iv ws, v1, .slice A2 n2 c2, v3], iv key, iv day] w fun e w' => e = .returned (.bool q) ∧ Below w.heap.size w w' := by
  subst hq
  exact isFree_any n ws v1 A2 n2 c2 v3 ls key day w hl

set_option maxRecDepth 100000 in
set_option maxHeartbeats 2000000 in
theorem ext_more (gm b2 b3 b5 b6 : Nat) (b : Bk) (A1 A2 A3 : Option Addr) (c1 c2 c3 : Nat) (ls : List Ls) (most : Int) (r : Nat) (hok : BookOK b)
    (ih : ∀ (x : Eve) (m : List (Eve × Value)) (w : World), Fr gm b2 b3 b5 b6 b A1 A2 A3 c1 c2 c3 ls most w → MapAt w gm m → KnownOK b ls most w m → EvOK b.ds.length r x →
      Calls Try.prog 101 #[x.val, .pointer (some ⟨b5, 0, none⟩), .pointer (some ⟨b2, 0, none⟩), .pointer (some ⟨b3, 0, none⟩), .pointer (some ⟨b6, 0, none⟩)] w (ExtPost gm b ls most r x m w))
    (x : Eve) (m : List (Eve × Value)) (w : World)
    (hF : Fr gm b2 b3 b5 b6 b A1 A2 A3 c1 c2 c3 ls most w) (hm : MapAt w gm m) (hk : KnownOK b ls most w m) (hx : EvOK b.ds.length (r + 1) x) (hl : look m x = none) :
    Calls Try.prog 101 #[x.val, .pointer (some ⟨b5, 0, none⟩), .pointer (some ⟨b2, 0, none⟩), .pointer (some ⟨b3, 0, none⟩), .pointer (some ⟨b6, 0, none⟩)] w (ExtPost gm b ls most (r + 1) x m w) := by
  have HIH := Lib.hid ih
  have HF := Lib.hid hF
  have HM := Lib.hid hm
  have HK := Lib.hid hk
  have HLk := Lib.hid hl
  have HX := Lib.hid hx
  have hd : x.day ≠ (b.ds.length : Int) := by have := hx.dr; omega
  have hd' : (x.day == (b.ds.length : Int)) = false := by rw [beq_eq_false_iff_ne]; exact hd
  have hk5 := hok.k2
  clear hF hm hk hl hd hx ih hok
  unfold ExtPost
  unfold Eve.val Eve.cells
  go_enter Try.func101, Try.ntmps101
  have hB : Below w.heap.size w ((w.alloc (.cells #[iv x.day, iv x.last, iv x.a, iv x.b, iv x.c, iv x.d, iv x.e] 147)).alloc (.cells #[.slice none 0 0, iv 0] 113)) := up_alloc (up_alloc up0 _) _
  have hlk := run_lookup (HM.out.kept hB) x
  rw [HLk.out] at hlk
  unfold Eve.val Eve.cells at hlk
  have HB := Lib.hid hB
  have b1 := HF.out.known.kept hB
  have k1 := fun i => b1.cell i
  simp only [Option.getD_none, Option.isSome_none] at hlk
  have b2' := ((HF.out.desk.kept hB).alloc (.cells #[.slice none 0 0, iv 0] 113))
  have b2'' := b2'.alloc (.cells #[.slice none 0 0, iv 8] 113)
  have k2 := fun i => b2'.cell i
  have k3 := fun i => b2''.cell i
  go_wp2_with fail
  clear hlk k1 b1 hB k2 k3 b2' b2''
  have hB : Below w.heap.size w ((((w.alloc (.cells #[iv x.day, iv x.last, iv x.a, iv x.b, iv x.c, iv x.d, iv x.e] 147)).alloc (.cells #[.slice none 0 0, iv 0] 113)).alloc (.cells #[.slice none 0 0, iv 0] 113)).alloc (.cells #[.slice none 0 0, iv 8] 113)) := up_alloc (up_alloc (up_alloc (up_alloc up0 _) _) _) _
  have N1 := (((Box.new (w := w) (t := 147) (cs := #[iv x.day, iv x.last, iv x.a, iv x.b, iv x.c, iv x.d, iv x.e]) rfl).alloc (.cells #[.slice none 0 0, iv 0] 113)).alloc (.cells #[.slice none 0 0, iv 0] 113)).alloc (.cells #[.slice none 0 0, iv 8] 113)
  have N2 := ((Box.new (w := w.alloc (.cells #[iv x.day, iv x.last, iv x.a, iv x.b, iv x.c, iv x.d, iv x.e] 147)) (g := w.heap.size + 1) (t := 113) (cs := #[.slice none 0 0, iv 0]) (by simp)).alloc (.cells #[.slice none 0 0, iv 0] 113)).alloc (.cells #[.slice none 0 0, iv 8] 113)
  have N3 := Box.new (w := ((w.alloc (.cells #[iv x.day, iv x.last, iv x.a, iv x.b, iv x.c, iv x.d, iv x.e] 147)).alloc (.cells #[.slice none 0 0, iv 0] 113)).alloc (.cells #[.slice none 0 0, iv 0] 113)) (g := w.heap.size + 1 + 1 + 1) (t := 113) (cs := #[.slice none 0 0, iv 8]) (by simp)
  have HR : Hid (RoundI gm b ls most x m w w.heap.size (w.heap.size + 1) _ m) := Lib.hid ⟨HM.out.kept hB, HK.out.kept hB, fun _ _ h => h, grown_row (grown_of_below hB), N1, N2⟩
  have HP : Hid (PlanIn _ (w.heap.size + 1 + 1 + 1) (.slice none 0 0) (bestK b.ks.length most (freeB b.ds.length ls) r x 0)) := Lib.hid ⟨N3, World.ownsRow_nil _ _ _ _⟩
  clear hB N1 N2 N3
  go_loopw [34] (fun i wr => ∃ k : Nat, k ≤ b.ks.length ∧ i = .int .i64 k ∧ ∃ vp m', Hid (RoundI gm b ls most x m w w.heap.size (w.heap.size + 1) wr m') ∧ Hid (PlanIn wr (w.heap.size + 1 + 1 + 1) vp (bestK b.ks.length most (freeB b.ds.length ls) r x k))) (fun i _ => b.ks.length - (intOf i).toNat)
  case atStart => exact ⟨0, by omega, rfl, _, _, HR, HP⟩
  case round =>
    clear HR HP
    obtain ⟨k, hk, rfl, vp, m', HR, HP⟩ := hrel
    obtain ⟨Av, cv, rfl⟩ := own_form' HP.out.own
    by_cases hlt : k < b.ks.length
    · have kk0 : (0 : Int) ≤ (k : Int) := by omega
      have kk1 : (k : Int) < 5 := by omega
      have kk2 : (k : Int) < (b.ks.length : Int) := by omega
      have HEV := Lib.hid HX.out
      obtain ⟨z, hz⟩ : ∃ z, w.heap.size = z := ⟨_, rfl⟩
      have HZ := Lib.hid hz
      rw [hz] at HR HP ⊢
      clear hz HB HK HLk hd'
      cases hfr : freeB b.ds.length ls k x.day with
      | false =>
        have HS := Lib.hid (show bestK b.ks.length most (freeB b.ds.length ls) r x (k + 1) = bestK b.ks.length most (freeB b.ds.length ls) r x k by rw [bestK_succ]; unfold stepP; rw [hfr]; rfl)
        have HQ := Lib.hid hfr
        clear hfr
        go_wp2_with fail
        have X := HR.out.eve
        have Fw := HF.out.grown HM.out HR.out.gr
        have D := Fw.desk
        have Mo := Fw.most
        have HLS := Lib.hid Fw.ls
        clear Fw
        apply wp_region_by 14 [(Fact.eq _), (Fact.eq _), (Fact.eq _), (Fact.eq _), (Fact.eq _), (Fact.eq _), (Fact.eq _), (Fact.eq _), (Fact.eq _), (Fact.eq _), (Fact.eq _), (Fact.eq _), (Fact.eq _), (Fact.eq _)]
        case hm => kernel_rfl
        case hB => kernel_rfl
        case hA => (intro vs; simp only [List.take_succ_cons, List.take_zero, putAll, if_true, Act.put, List.setIfInBounds_toArray, List.set_cons_zero, List.set_cons_succ]; exact rfl)
        case hstep =>
          intro vs
          refine And.intro (fun w hw hd => ?_) ?_
          · refine ite_yes rfl ?_
            have c_X := fun i => (X.kept hw).cell i
            have c_D := fun i => (D.kept hw).cell i
            have c_Mo := fun i => (Mo.kept hw).cell i
            simp only [Gives]
            go_simp
            exact ⟨Below.refl _ _, rfl, fun h => by cases h⟩
          refine And.intro (fun w hw hd => ?_) ?_
          · refine ite_yes rfl ?_
            simp only [Gives]
            go_simp
            exact ⟨Below.refl _ _, rfl, fun h => by cases h⟩
          refine And.intro (fun w hw hd => ?_) ?_
          · refine ite_yes rfl ?_
            simp only [Gives]
            go_simp
            exact ⟨Below.refl _ _, rfl, fun h => by cases h⟩
          refine And.intro (fun w hw hd => ?_) ?_
          · have d2 := hd 2 (by decide) rfl
            change vs 2 = _ at d2
            refine ite_yes rfl ?_
            have c_X := fun i => (X.kept hw).cell i
            have c_D := fun i => (D.kept hw).cell i
            have c_Mo := fun i => (Mo.kept hw).cell i
            simp only [Gives]
            go_simp
            exact ⟨Below.refl _ _, rfl, fun h => by cases h⟩
          refine And.intro (fun w hw hd => ?_) ?_
          · have d0 := hd 0 (by decide) rfl
            change vs 0 = _ at d0
            have d1 := hd 1 (by decide) rfl
            change vs 1 = _ at d1
            have d3 := hd 3 (by decide) rfl
            change vs 3 = _ at d3
            refine ite_yes rfl ?_
            simp only [Gives]
            go_simp
            refine (isFree_is b.n b.w _ A2 b.ds.length c2 _ ls k x.day false HQ.out w (HLS.out.kept hw)).mono ?_
            rintro e w1 ⟨rfl, hb⟩
            exact ⟨_, rfl, hb, rfl, fun h => by cases h⟩
          refine And.intro (fun w hw hd => ?_) ?_
          · have d4 := hd 4 (by decide) rfl
            change vs 4 = _ at d4
            refine ite_yes rfl ?_
            simp only [Gives]
            go_simp
            exact ⟨Below.refl _ _, rfl, fun h => by cases h⟩
          refine And.intro (fun w hw hd => ?_) ?_
          · have d5 := hd 5 (by decide) rfl
            change vs 5 = _ at d5
            refine ite_yes rfl ?_
            simp only [Gives]
            go_simp
            exact ⟨Below.refl _ _, rfl, fun h => by cases h⟩
          refine And.intro (fun w hw hd => ?_) ?_
          · have d6 := hd 6 (by decide) rfl
            change vs 6 = _ at d6
            refine ite_no (by simp [Region.wanted, yielded, d6]) ?_
            exact ⟨rfl, rfl⟩
          refine And.intro (fun w hw hd => ?_) ?_
          · have d6 := hd 6 (by decide) rfl
            change vs 6 = _ at d6
            refine ite_no (by simp [Region.wanted, yielded, d6]) ?_
            exact ⟨rfl, rfl⟩
          refine And.intro (fun w hw hd => ?_) ?_
          · have d8 := hd 8 (by decide) rfl
            change vs 8 = _ at d8
            have d7 := hd 7 (by decide) rfl
            change vs 7 = _ at d7
            have d6 := hd 6 (by decide) rfl
            change vs 6 = _ at d6
            refine ite_no (by simp [Region.wanted, yielded, d6]) ?_
            exact ⟨rfl, rfl⟩
          refine And.intro (fun w hw hd => ?_) ?_
          · have d9 := hd 9 (by decide) rfl
            change vs 9 = _ at d9
            have d6 := hd 6 (by decide) rfl
            change vs 6 = _ at d6
            refine ite_no (by simp [Region.wanted, yielded, d6]) ?_
            exact ⟨rfl, rfl⟩
          refine And.intro (fun w hw hd => ?_) ?_
          · have d6 := hd 6 (by decide) rfl
            change vs 6 = _ at d6
            refine ite_no (by simp [Region.wanted, yielded, d6]) ?_
            exact ⟨rfl, rfl⟩
          refine And.intro (fun w hw hd => ?_) ?_
          · have d10 := hd 10 (by decide) rfl
            change vs 10 = _ at d10
            have d11 := hd 11 (by decide) rfl
            change vs 11 = _ at d11
            have d6 := hd 6 (by decide) rfl
            change vs 6 = _ at d6
            refine ite_no (by simp [Region.wanted, yielded, d6]) ?_
            exact ⟨rfl, rfl⟩
          refine And.intro (fun w hw hd => ?_) ?_
          · have d6 := hd 6 (by decide) rfl
            change vs 6 = _ at d6
            have d12 := hd 12 (by decide) rfl
            change vs 12 = _ at d12
            refine ite_yes rfl ?_
            simp only [Gives]
            go_simp
            exact ⟨Below.refl _ _, rfl, fun h => by cases h⟩
          exact trivial
        intro vs wt hw hd hne hlo
        have d0 := hd 0 (by decide)
        change vs 0 = _ at d0
        have d1 := hd 1 (by decide)
        change vs 1 = _ at d1
        have d2 := hd 2 (by decide)
        change vs 2 = _ at d2
        have d3 := hd 3 (by decide)
        change vs 3 = _ at d3
        have d4 := hd 4 (by decide)
        change vs 4 = _ at d4
        have d5 := hd 5 (by decide)
        change vs 5 = _ at d5
        have d6 := hd 6 (by decide)
        change vs 6 = _ at d6
        have d7 := hd 7 (by decide)
        change vs 7 = _ at d7
        have d8 := hd 8 (by decide)
        change vs 8 = _ at d8
        have d9 := hd 9 (by decide)
        change vs 9 = _ at d9
        have d10 := hd 10 (by decide)
        change vs 10 = _ at d10
        have d11 := hd 11 (by decide)
        change vs 11 = _ at d11
        have d12 := hd 12 (by decide)
        change vs 12 = _ at d12
        have d13 := hd 13 (by decide)
        change vs 13 = _ at d13
        simp only [d0, d1, d2, d3, d4, d5, d6, d7, d8, d9, d10, d11, d12, d13, List.drop_succ_cons, List.drop_nil]
        have X := X.kept hw
        have D := D.kept hw
        have Mo := Mo.kept hw
        have c_X := fun i => X.cell i
        have f_X := fun i => X.free i
        have c_D := fun i => D.cell i
        have f_D := fun i => D.free i
        have c_Mo := fun i => Mo.cell i
        have f_Mo := fun i => Mo.free i
        clear hd hne hlo d0 d1 d2 d3 d4 d5 d6 d7 d8 d9 d10 d11 d12 d13
        clear c_X f_X c_D f_D c_Mo f_Mo X D Mo
        go_wp2_with fail
        go_roundw
        case rel => exact ⟨k + 1, by omega, by go_num, _, m', HR.out.kept hw, by rw [HS.out]; exact HP.out.kept hw⟩
        case measure => simp [intOf]; omega
      | true =>
        have HQ := Lib.hid hfr
        cases hu : (x.used k == most) with
        | true =>
          have HS := Lib.hid (show bestK b.ks.length most (freeB b.ds.length ls) r x (k + 1) = bestK b.ks.length most (freeB b.ds.length ls) r x k by rw [bestK_succ]; unfold stepP; simp [hfr, bne, hu])
          clear hfr
          go_wp2_with fail
          have X := HR.out.eve
          have Fw := HF.out.grown HM.out HR.out.gr
          have D := Fw.desk
          have Mo := Fw.most
          have HLS := Lib.hid Fw.ls
          clear Fw
          apply wp_region_by 14 [(Fact.eq _), (Fact.eq _), (Fact.eq _), (Fact.eq _), (Fact.eq _), (Fact.eq _), (Fact.eq _), (Fact.eq _), (Fact.eq _), (Fact.eq _), (Fact.eq _), (Fact.eq _), (Fact.eq _), (Fact.eq _)]
          case hm => kernel_rfl
          case hB => kernel_rfl
          case hA => (intro vs; simp only [List.take_succ_cons, List.take_zero, putAll, if_true, Act.put, List.setIfInBounds_toArray, List.set_cons_zero, List.set_cons_succ]; exact rfl)
          case hstep =>
            intro vs
            refine And.intro (fun w hw hd => ?_) ?_
            · refine ite_yes rfl ?_
              have c_X := fun i => (X.kept hw).cell i
              have c_D := fun i => (D.kept hw).cell i
              have c_Mo := fun i => (Mo.kept hw).cell i
              simp only [Gives]
              go_simp
              exact ⟨Below.refl _ _, rfl, fun h => by cases h⟩
            refine And.intro (fun w hw hd => ?_) ?_
            · refine ite_yes rfl ?_
              simp only [Gives]
              go_simp
              exact ⟨Below.refl _ _, rfl, fun h => by cases h⟩
            refine And.intro (fun w hw hd => ?_) ?_
            · refine ite_yes rfl ?_
              simp only [Gives]
              go_simp
              exact ⟨Below.refl _ _, rfl, fun h => by cases h⟩
            refine And.intro (fun w hw hd => ?_) ?_
            · have d2 := hd 2 (by decide) rfl
              change vs 2 = _ at d2
              refine ite_yes rfl ?_
              have c_X := fun i => (X.kept hw).cell i
              have c_D := fun i => (D.kept hw).cell i
              have c_Mo := fun i => (Mo.kept hw).cell i
              have q0 : [iv x.day, iv x.last, iv x.a, iv x.b, iv x.c, iv x.d, iv x.e][2 + k]? = some (iv (x.used k)) := used_at (by omega)
              simp only [Gives]
              go_simp
              exact ⟨Below.refl _ _, rfl, fun h => by cases h⟩
            refine And.intro (fun w hw hd => ?_) ?_
            · have d0 := hd 0 (by decide) rfl
              change vs 0 = _ at d0
              have d1 := hd 1 (by decide) rfl
              change vs 1 = _ at d1
              have d3 := hd 3 (by decide) rfl
              change vs 3 = _ at d3
              refine ite_yes rfl ?_
              simp only [Gives]
              go_simp
              refine (isFree_is b.n b.w _ A2 b.ds.length c2 _ ls k x.day true HQ.out w (HLS.out.kept hw)).mono ?_
              rintro e w1 ⟨rfl, hb⟩
              exact ⟨_, rfl, hb, rfl, fun h => by cases h⟩
            refine And.intro (fun w hw hd => ?_) ?_
            · have d4 := hd 4 (by decide) rfl
              change vs 4 = _ at d4
              refine ite_yes rfl ?_
              simp only [Gives]
              go_simp
              exact ⟨Below.refl _ _, rfl, fun h => by cases h⟩
            refine And.intro (fun w hw hd => ?_) ?_
            · have d5 := hd 5 (by decide) rfl
              change vs 5 = _ at d5
              refine ite_yes rfl ?_
              simp only [Gives]
              go_simp
              exact ⟨Below.refl _ _, rfl, fun h => by cases h⟩
            refine And.intro (fun w hw hd => ?_) ?_
            · have d6 := hd 6 (by decide) rfl
              change vs 6 = _ at d6
              refine ite_yes (by simp [Region.wanted, yielded, d6]) ?_
              simp only [Gives]
              go_simp
              exact ⟨Below.refl _ _, rfl, fun h => by cases h⟩
            refine And.intro (fun w hw hd => ?_) ?_
            · have d6 := hd 6 (by decide) rfl
              change vs 6 = _ at d6
              refine ite_yes (by simp [Region.wanted, yielded, d6]) ?_
              simp only [Gives]
              go_simp
              exact ⟨Below.refl _ _, rfl, fun h => by cases h⟩
            refine And.intro (fun w hw hd => ?_) ?_
            · have d8 := hd 8 (by decide) rfl
              change vs 8 = _ at d8
              have d7 := hd 7 (by decide) rfl
              change vs 7 = _ at d7
              have d6 := hd 6 (by decide) rfl
              change vs 6 = _ at d6
              refine ite_yes (by simp [Region.wanted, yielded, d6]) ?_
              simp only [Gives]
              go_simp
              exact ⟨Below.refl _ _, rfl, fun h => by cases h⟩
            refine And.intro (fun w hw hd => ?_) ?_
            · have d9 := hd 9 (by decide) rfl
              change vs 9 = _ at d9
              have d6 := hd 6 (by decide) rfl
              change vs 6 = _ at d6
              refine ite_yes (by simp [Region.wanted, yielded, d6]) ?_
              have c_X := fun i => (X.kept hw).cell i
              have c_D := fun i => (D.kept hw).cell i
              have c_Mo := fun i => (Mo.kept hw).cell i
              have q0 : [iv x.day, iv x.last, iv x.a, iv x.b, iv x.c, iv x.d, iv x.e][2 + k]? = some (iv (x.used k)) := used_at (by omega)
              simp only [Gives]
              go_simp
              exact ⟨Below.refl _ _, rfl, fun h => by cases h⟩
            refine And.intro (fun w hw hd => ?_) ?_
            · have d6 := hd 6 (by decide) rfl
              change vs 6 = _ at d6
              refine ite_yes (by simp [Region.wanted, yielded, d6]) ?_
              have c_X := fun i => (X.kept hw).cell i
              have c_D := fun i => (D.kept hw).cell i
              have c_Mo := fun i => (Mo.kept hw).cell i
              have q0 : [iv x.day, iv x.last, iv x.a, iv x.b, iv x.c, iv x.d, iv x.e][2 + k]? = some (iv (x.used k)) := used_at (by omega)
              simp only [Gives]
              go_simp
              exact ⟨Below.refl _ _, rfl, fun h => by cases h⟩
            refine And.intro (fun w hw hd => ?_) ?_
            · have d10 := hd 10 (by decide) rfl
              change vs 10 = _ at d10
              have d11 := hd 11 (by decide) rfl
              change vs 11 = _ at d11
              have d6 := hd 6 (by decide) rfl
              change vs 6 = _ at d6
              refine ite_yes (by simp [Region.wanted, yielded, d6]) ?_
              simp only [Gives]
              go_simp
              exact ⟨Below.refl _ _, rfl, fun h => by cases h⟩
            refine And.intro (fun w hw hd => ?_) ?_
            · have d6 := hd 6 (by decide) rfl
              change vs 6 = _ at d6
              have d12 := hd 12 (by decide) rfl
              change vs 12 = _ at d12
              refine ite_yes rfl ?_
              simp only [Gives]
              go_simp
              exact ⟨Below.refl _ _, rfl, fun h => by cases h⟩
            exact trivial
          intro vs wt hw hd hne hlo
          have d0 := hd 0 (by decide)
          change vs 0 = _ at d0
          have d1 := hd 1 (by decide)
          change vs 1 = _ at d1
          have d2 := hd 2 (by decide)
          change vs 2 = _ at d2
          have d3 := hd 3 (by decide)
          change vs 3 = _ at d3
          have d4 := hd 4 (by decide)
          change vs 4 = _ at d4
          have d5 := hd 5 (by decide)
          change vs 5 = _ at d5
          have d6 := hd 6 (by decide)
          change vs 6 = _ at d6
          have d7 := hd 7 (by decide)
          change vs 7 = _ at d7
          have d8 := hd 8 (by decide)
          change vs 8 = _ at d8
          have d9 := hd 9 (by decide)
          change vs 9 = _ at d9
          have d10 := hd 10 (by decide)
          change vs 10 = _ at d10
          have d11 := hd 11 (by decide)
          change vs 11 = _ at d11
          have d12 := hd 12 (by decide)
          change vs 12 = _ at d12
          have d13 := hd 13 (by decide)
          change vs 13 = _ at d13
          simp only [d0, d1, d2, d3, d4, d5, d6, d7, d8, d9, d10, d11, d12, d13, List.drop_succ_cons, List.drop_nil]
          have X := X.kept hw
          have D := D.kept hw
          have Mo := Mo.kept hw
          have c_X := fun i => X.cell i
          have f_X := fun i => X.free i
          have c_D := fun i => D.cell i
          have f_D := fun i => D.free i
          have c_Mo := fun i => Mo.cell i
          have f_Mo := fun i => Mo.free i
          clear hd hne hlo d0 d1 d2 d3 d4 d5 d6 d7 d8 d9 d10 d11 d12 d13
          clear c_X f_X c_D f_D c_Mo f_Mo X D Mo
          go_wp2_with fail
          go_roundw
          case rel => exact ⟨k + 1, by omega, by go_num, _, m', HR.out.kept hw, by rw [HS.out]; exact HP.out.kept hw⟩
          case measure => simp [intOf]; omega
        | false =>
          have HU := Lib.hid hu
          go_wp2_with fail
          have X := HR.out.eve
          have Fw := HF.out.grown HM.out HR.out.gr
          have D := Fw.desk
          have Mo := Fw.most
          have HLS := Lib.hid Fw.ls
          clear Fw
          apply wp_region_by 14 [(Fact.eq _), (Fact.eq _), (Fact.eq _), (Fact.eq _), (Fact.eq _), (Fact.eq _), (Fact.eq _), (Fact.eq _), (Fact.eq _), (Fact.eq _), (Fact.eq _), (Fact.eq _), (Fact.eq _), (Fact.eq _)]
          case hm => kernel_rfl
          case hB => kernel_rfl
          case hA => (intro vs; simp only [List.take_succ_cons, List.take_zero, putAll, if_true, Act.put, List.setIfInBounds_toArray, List.set_cons_zero, List.set_cons_succ]; exact rfl)
          case hstep =>
            intro vs
            refine And.intro (fun w hw hd => ?_) ?_
            · refine ite_yes rfl ?_
              have c_X := fun i => (X.kept hw).cell i
              have c_D := fun i => (D.kept hw).cell i
              have c_Mo := fun i => (Mo.kept hw).cell i
              simp only [Gives]
              go_simp
              exact ⟨Below.refl _ _, rfl, fun h => by cases h⟩
            refine And.intro (fun w hw hd => ?_) ?_
            · refine ite_yes rfl ?_
              simp only [Gives]
              go_simp
              exact ⟨Below.refl _ _, rfl, fun h => by cases h⟩
            refine And.intro (fun w hw hd => ?_) ?_
            · refine ite_yes rfl ?_
              simp only [Gives]
              go_simp
              exact ⟨Below.refl _ _, rfl, fun h => by cases h⟩
            refine And.intro (fun w hw hd => ?_) ?_
            · have d2 := hd 2 (by decide) rfl
              change vs 2 = _ at d2
              refine ite_yes rfl ?_
              have c_X := fun i => (X.kept hw).cell i
              have c_D := fun i => (D.kept hw).cell i
              have c_Mo := fun i => (Mo.kept hw).cell i
              have q0 : [iv x.day, iv x.last, iv x.a, iv x.b, iv x.c, iv x.d, iv x.e][2 + k]? = some (iv (x.used k)) := used_at (by omega)
              simp only [Gives]
              go_simp
              exact ⟨Below.refl _ _, rfl, fun h => by cases h⟩
            refine And.intro (fun w hw hd => ?_) ?_
            · have d0 := hd 0 (by decide) rfl
              change vs 0 = _ at d0
              have d1 := hd 1 (by decide) rfl
              change vs 1 = _ at d1
              have d3 := hd 3 (by decide) rfl
              change vs 3 = _ at d3
              refine ite_yes rfl ?_
              simp only [Gives]
              go_simp
              refine (isFree_is b.n b.w _ A2 b.ds.length c2 _ ls k x.day true HQ.out w (HLS.out.kept hw)).mono ?_
              rintro e w1 ⟨rfl, hb⟩
              exact ⟨_, rfl, hb, rfl, fun h => by cases h⟩
            refine And.intro (fun w hw hd => ?_) ?_
            · have d4 := hd 4 (by decide) rfl
              change vs 4 = _ at d4
              refine ite_yes rfl ?_
              simp only [Gives]
              go_simp
              exact ⟨Below.refl _ _, rfl, fun h => by cases h⟩
            refine And.intro (fun w hw hd => ?_) ?_
            · have d5 := hd 5 (by decide) rfl
              change vs 5 = _ at d5
              refine ite_yes rfl ?_
              simp only [Gives]
              go_simp
              exact ⟨Below.refl _ _, rfl, fun h => by cases h⟩
            refine And.intro (fun w hw hd => ?_) ?_
            · have d6 := hd 6 (by decide) rfl
              change vs 6 = _ at d6
              refine ite_yes (by simp [Region.wanted, yielded, d6]) ?_
              simp only [Gives]
              go_simp
              exact ⟨Below.refl _ _, rfl, fun h => by cases h⟩
            refine And.intro (fun w hw hd => ?_) ?_
            · have d6 := hd 6 (by decide) rfl
              change vs 6 = _ at d6
              refine ite_yes (by simp [Region.wanted, yielded, d6]) ?_
              simp only [Gives]
              go_simp
              exact ⟨Below.refl _ _, rfl, fun h => by cases h⟩
            refine And.intro (fun w hw hd => ?_) ?_
            · have d8 := hd 8 (by decide) rfl
              change vs 8 = _ at d8
              have d7 := hd 7 (by decide) rfl
              change vs 7 = _ at d7
              have d6 := hd 6 (by decide) rfl
              change vs 6 = _ at d6
              refine ite_yes (by simp [Region.wanted, yielded, d6]) ?_
              simp only [Gives]
              go_simp
              exact ⟨Below.refl _ _, rfl, fun h => by cases h⟩
            refine And.intro (fun w hw hd => ?_) ?_
            · have d9 := hd 9 (by decide) rfl
              change vs 9 = _ at d9
              have d6 := hd 6 (by decide) rfl
              change vs 6 = _ at d6
              refine ite_yes (by simp [Region.wanted, yielded, d6]) ?_
              have c_X := fun i => (X.kept hw).cell i
              have c_D := fun i => (D.kept hw).cell i
              have c_Mo := fun i => (Mo.kept hw).cell i
              have q0 : [iv x.day, iv x.last, iv x.a, iv x.b, iv x.c, iv x.d, iv x.e][2 + k]? = some (iv (x.used k)) := used_at (by omega)
              simp only [Gives]
              go_simp
              exact ⟨Below.refl _ _, rfl, fun h => by cases h⟩
            refine And.intro (fun w hw hd => ?_) ?_
            · have d6 := hd 6 (by decide) rfl
              change vs 6 = _ at d6
              refine ite_yes (by simp [Region.wanted, yielded, d6]) ?_
              have c_X := fun i => (X.kept hw).cell i
              have c_D := fun i => (D.kept hw).cell i
              have c_Mo := fun i => (Mo.kept hw).cell i
              have q0 : [iv x.day, iv x.last, iv x.a, iv x.b, iv x.c, iv x.d, iv x.e][2 + k]? = some (iv (x.used k)) := used_at (by omega)
              simp only [Gives]
              go_simp
              exact ⟨Below.refl _ _, rfl, fun h => by cases h⟩
            refine And.intro (fun w hw hd => ?_) ?_
            · have d10 := hd 10 (by decide) rfl
              change vs 10 = _ at d10
              have d11 := hd 11 (by decide) rfl
              change vs 11 = _ at d11
              have d6 := hd 6 (by decide) rfl
              change vs 6 = _ at d6
              refine ite_yes (by simp [Region.wanted, yielded, d6]) ?_
              simp only [Gives]
              go_simp
              exact ⟨Below.refl _ _, rfl, fun h => by cases h⟩
            refine And.intro (fun w hw hd => ?_) ?_
            · have d6 := hd 6 (by decide) rfl
              change vs 6 = _ at d6
              have d12 := hd 12 (by decide) rfl
              change vs 12 = _ at d12
              refine ite_yes rfl ?_
              simp only [Gives]
              go_simp
              exact ⟨Below.refl _ _, rfl, fun h => by cases h⟩
            exact trivial
          intro vs wt hw hd hne hlo
          have d0 := hd 0 (by decide)
          change vs 0 = _ at d0
          have d1 := hd 1 (by decide)
          change vs 1 = _ at d1
          have d2 := hd 2 (by decide)
          change vs 2 = _ at d2
          have d3 := hd 3 (by decide)
          change vs 3 = _ at d3
          have d4 := hd 4 (by decide)
          change vs 4 = _ at d4
          have d5 := hd 5 (by decide)
          change vs 5 = _ at d5
          have d6 := hd 6 (by decide)
          change vs 6 = _ at d6
          have d7 := hd 7 (by decide)
          change vs 7 = _ at d7
          have d8 := hd 8 (by decide)
          change vs 8 = _ at d8
          have d9 := hd 9 (by decide)
          change vs 9 = _ at d9
          have d10 := hd 10 (by decide)
          change vs 10 = _ at d10
          have d11 := hd 11 (by decide)
          change vs 11 = _ at d11
          have d12 := hd 12 (by decide)
          change vs 12 = _ at d12
          have d13 := hd 13 (by decide)
          change vs 13 = _ at d13
          simp only [d0, d1, d2, d3, d4, d5, d6, d7, d8, d9, d10, d11, d12, d13, List.drop_succ_cons, List.drop_nil]
          have X := X.kept hw
          have D := D.kept hw
          have Mo := Mo.kept hw
          have c_X := fun i => X.cell i
          have f_X := fun i => X.free i
          have c_D := fun i => D.cell i
          have f_D := fun i => D.free i
          have c_Mo := fun i => Mo.cell i
          have f_Mo := fun i => Mo.free i
          clear hd hne hlo d0 d1 d2 d3 d4 d5 d6 d7 d8 d9 d10 d11 d12 d13
          clear c_X f_X c_D f_D c_Mo f_Mo X D Mo
          have HR := Lib.hid (HR.out.kept hw)
          have HP := Lib.hid (HP.out.kept hw)
          clear hw hfr hu
          go_wp2_with fail
          have hlt5 : k < 5 := by omega
          have X := HR.out.eve
          have Ex := (HF.out.grown HM.out HR.out.gr).ext
          have n_X := X.ne_map HR.out.map
          have n_Ex := Ex.ne_map HR.out.map
          have hrow : ∀ b, (some gm : Option Nat) = some b → b < wt.heap.size := fun b e => by cases e; exact HR.out.map.lt
          obtain ⟨B0, hB0⟩ : ∃ B0, wt.heap.size = B0 := ⟨_, rfl⟩
          apply wp_region_once 6 4 (some gm) [(FactR.eq _ _), (FactR.eq _ _), (FactR.eq _ _), (FactR.eq _ _), (FactR.any _), (FactR.box _ B0 113 #[.slice none 0 0, iv 0])] (ExtV gm b ls most r (x.next k) m')
          case hm => kernel_rfl
          case hB => kernel_rfl
          case hpn => decide
          case hFp => exact extV_grown
          case hA => (intro vs; simp only [List.take_succ_cons, List.take_zero, putAll, if_true, Act.put, List.setIfInBounds_toArray, List.set_cons_zero, List.set_cons_succ]; exact rfl)
          case hstep =>
            intro vs
            refine And.intro (fun _ w hw hd => ?_) ?_
            · refine ite_yes rfl ?_
              have c_X := fun i => (X.grown hw n_X).cell i
              have c_Ex := fun i => (Ex.grown hw n_Ex).cell i
              simp only [Gives]
              go_simp
              exact ⟨Below.refl _ _, rfl⟩
            refine And.intro (fun _ w hw hd => ?_) ?_
            · refine ite_yes rfl ?_
              have c_X := fun i => (X.grown hw n_X).cell i
              have c_Ex := fun i => (Ex.grown hw n_Ex).cell i
              simp only [Gives]
              go_simp
              exact ⟨Below.refl _ _, rfl⟩
            refine And.intro (fun _ w hw hd => ?_) ?_
            · refine ite_yes rfl ?_
              simp only [Gives]
              go_simp
              exact ⟨Below.refl _ _, rfl⟩
            refine And.intro (fun _ w hw hd => ?_) ?_
            · have d1 := hd 1 (by decide) rfl (by decide)
              change vs 1 = _ at d1
              have d2 := hd 2 (by decide) rfl (by decide)
              change vs 2 = _ at d2
              refine ite_yes rfl ?_
              simp only [Gives]
              go_simp
              refine (with_any b.ds.length r x k w HX.out hlt5).mono ?_
              rintro e w1 ⟨rfl, hb⟩
              exact ⟨_, rfl, hb, rfl⟩
            refine And.intro (fun h => absurd rfl h) ?_
            refine And.intro (fun _ w hw hd => ?_) ?_
            · refine ite_yes rfl ?_
              simp only [Gives]
              go_simp
              exact ⟨(Below.refl _ _).alloc (Nat.le_refl _) _, ⟨_, rfl, Box.new rfl, fun e => (by have := hrow _ e.symm; have := hw.size; omega), by have := hw.size; omega⟩⟩
            exact trivial
          case hp =>
            intro vs o ho w hw hd
            obtain rfl := Option.some.inj ho
            have d0 := hd 0 (by decide) rfl (by decide)
            change vs 0 = _ at d0
            have d3 := hd 3 (by decide) rfl (by decide)
            change vs 3 = _ at d3
            refine ⟨rfl, ?_⟩
            simp only [Gives]
            go_simp
            refine (HIH.out (x.next k) m' w ((HF.out.grown HM.out HR.out.gr).kept hw) (HR.out.map.kept hw) (HR.out.known.kept hw) (HX.out.next k)).mono ?_
            rintro e w1 ⟨u, m2, rfl, q1, q2, q3, q4, q5⟩
            exact ⟨_, rfl, u, m2, rfl, q1, q2, q3, q4, q5⟩
          intro vs wt w1 wz hwt hF hwz hd
          have d0 := hd 0 (by decide) (by decide)
          change vs 0 = _ at d0
          have d1 := hd 1 (by decide) (by decide)
          change vs 1 = _ at d1
          have d2 := hd 2 (by decide) (by decide)
          change vs 2 = _ at d2
          have d3 := hd 3 (by decide) (by decide)
          change vs 3 = _ at d3
          obtain ⟨n5, d5, N5, E5, K5⟩ := hd 5 (by decide) (by decide)
          simp only [d0, d1, d2, d3, d5, List.drop_succ_cons, List.drop_zero]
          clear hd d0 d1 d2 d3 d5
          obtain ⟨u, m2, hv, q1, q2, q3, q4, q5⟩ := hF
          obtain ⟨Q, hQ⟩ : ∃ Q, planI b ls most r (x.next k) = Q := ⟨_, rfl⟩
          have hQi := bestF_in b.ks.length most (freeB b.ds.length ls) r (x.next k)
          have hQ' : bestF b.ks.length most (freeB b.ds.length ls) r (x.next k) = Q := hQ
          rw [hQ'] at hQi
          rw [hQ] at hv q1
          obtain ⟨Au, cu, rfl⟩ := own_form' q1
          have hq5 : ∀ q : Eve, q.day < x.day + 1 → look m' q = none → look m2 q = none := fun q hq => q5 q (by rw [next_day]; exact hq)
          have HRz := ((HR.out.kept hwt).grow q2 q3 q4 hq5).kept hwz
          have HPz := ((HP.out.kept hwt).grown (HR.out.kept hwt).map q2).kept hwz
          have q1z : OwnI wz _ _ := own_below q1 hwz
          have hzB := HP.out.box.lt
          rw [hB0] at hzB
          have e1 : z ≠ n5 := by omega
          have e2 : z + 1 ≠ n5 := by omega
          have e3 : z + 1 + 1 + 1 ≠ n5 := by omega
          have e4 : w.heap.size ≤ n5 := by rw [HZ.out]; omega
          have HRn := Lib.hid ((HRz.put N5 (i := 0) (u := .slice Au Q.1.length cu) e1 e2 e4).put (N5.put 0 (.slice Au Q.1.length cu)) (i := 1) (u := iv Q.2) e1 e2 e4)
          have HPn := Lib.hid ((HPz.put N5 (i := 0) (u := .slice Au Q.1.length cu) e3).put (N5.put 0 (.slice Au Q.1.length cu)) (i := 1) (u := iv Q.2) e3)
          have HQn := Lib.hid ((q1z.put N5 (i := 0) (u := .slice Au Q.1.length cu) (by decide)).put (N5.put 0 (.slice Au Q.1.length cu)) (i := 1) (u := iv Q.2) (by decide))
          have HNn := Lib.hid (Box.put2 (u0 := .slice Au Q.1.length cu) (u1 := iv Q.2) N5)
          have HQQ := Lib.hid hQ'
          obtain ⟨hQ0, hQ8, hQl⟩ := hQi
          obtain ⟨ch0, ch1⟩ := changeI_in x k
          have hPi := bestK_in b.ks.length most (freeB b.ds.length ls) r x k
          have hr8 : r ≤ 8 := by have := HX.out.dr; have := HX.out.n8; have := HX.out.d0; omega
          simp only [Nat.zero_add, Nat.reduceAdd, hv]
          clear hQ hQ' hq5 HRz HPz q1z hzB q1 q2 q3 q4 q5 hv X Ex n_X n_Ex hrow D Mo E5 K5 hwt hwz HR HP e1 e2 e3 e4 hB0
          have cN := fun i => N5.cell i
          have fN := fun i => N5.free i
          have lN := N5.lt
          go_wp2_with fail
          clear cN fN lN N5
          generalize hWn : (wz.setCell ⟨n5, 0, none⟩ (.slice Au Q.1.length cu)).setCell ⟨n5, 1, none⟩ (iv Q.2) = W at HRn HPn HQn HNn ⊢
          clear hWn
          have X := HRn.out.eve
          have N := HNn.out
          have hW : IntKind.i64.wrap (changeI x k + Q.2) = changeI x k + Q.2 := wrapK_in _ 100 (by omega) (by omega)
          obtain ⟨P, hP⟩ : ∃ P, bestK b.ks.length most (freeB b.ds.length ls) r x k = P := ⟨_, rfl⟩
          have HPP := Lib.hid hP
          rw [hP] at HPn hPi
          obtain ⟨hP0, hP8, hPl⟩ := hPi
          clear hP
          apply wp_region_by 7 [(Fact.eq _), (Fact.eq _), (Fact.eq _), (Fact.eq _), (Fact.eq _), (Fact.eq _), (Fact.eq _)]
          case hm => kernel_rfl
          case hB => kernel_rfl
          case hA => (intro vs; simp only [List.take_succ_cons, List.take_zero, putAll, if_true, Act.put, List.setIfInBounds_toArray, List.set_cons_zero, List.set_cons_succ]; exact rfl)
          case hstep =>
            intro vs
            refine And.intro (fun w hw hd => ?_) ?_
            · refine ite_yes rfl ?_
              have c_X := fun i => (X.kept hw).cell i
              have c_N := fun i => (N.kept hw).cell i
              simp only [Gives]
              go_simp
              exact ⟨Below.refl _ _, rfl, fun h => by cases h⟩
            refine And.intro (fun w hw hd => ?_) ?_
            · refine ite_yes rfl ?_
              simp only [Gives]
              go_simp
              exact ⟨Below.refl _ _, rfl, fun h => by cases h⟩
            refine And.intro (fun w hw hd => ?_) ?_
            · have d0 := hd 0 (by decide) rfl
              change vs 0 = _ at d0
              have d1 := hd 1 (by decide) rfl
              change vs 1 = _ at d1
              refine ite_yes rfl ?_
              simp only [Gives]
              go_simp
              refine (changesTo_any x k w).mono ?_
              rintro e w1 ⟨rfl, hb⟩
              exact ⟨_, rfl, hb, rfl, fun h => by cases h⟩
            refine And.intro (fun w hw hd => ?_) ?_
            · refine ite_yes rfl ?_
              simp only [Gives]
              go_simp
              exact ⟨Below.refl _ _, rfl, fun h => by cases h⟩
            refine And.intro (fun w hw hd => ?_) ?_
            · have d3 := hd 3 (by decide) rfl
              change vs 3 = _ at d3
              refine ite_yes rfl ?_
              have c_X := fun i => (X.kept hw).cell i
              have c_N := fun i => (N.kept hw).cell i
              simp only [Gives]
              go_simp
              exact ⟨Below.refl _ _, rfl, fun h => by cases h⟩
            refine And.intro (fun w hw hd => ?_) ?_
            · have d2 := hd 2 (by decide) rfl
              change vs 2 = _ at d2
              have d4 := hd 4 (by decide) rfl
              change vs 4 = _ at d4
              refine ite_yes rfl ?_
              simp only [Gives]
              go_simp
              exact ⟨Below.refl _ _, rfl, fun h => by cases h⟩
            refine And.intro (fun w hw hd => ?_) ?_
            · have d5 := hd 5 (by decide) rfl
              change vs 5 = _ at d5
              refine ite_yes rfl ?_
              simp only [Gives]
              go_simp
              exact ⟨Below.refl _ _, rfl, fun h => by cases h⟩
            exact trivial
          intro vs wt hw hd hne hlo
          have d0 := hd 0 (by decide)
          change vs 0 = _ at d0
          have d1 := hd 1 (by decide)
          change vs 1 = _ at d1
          have d2 := hd 2 (by decide)
          change vs 2 = _ at d2
          have d3 := hd 3 (by decide)
          change vs 3 = _ at d3
          have d4 := hd 4 (by decide)
          change vs 4 = _ at d4
          have d5 := hd 5 (by decide)
          change vs 5 = _ at d5
          have d6 := hd 6 (by decide)
          change vs 6 = _ at d6
          simp only [d0, d1, d2, d3, d4, d5, d6, List.drop_succ_cons, List.drop_nil]
          have X := X.kept hw
          have N := N.kept hw
          have c_X := fun i => X.cell i
          have f_X := fun i => X.free i
          have c_N := fun i => N.cell i
          have f_N := fun i => N.free i
          clear hd hne hlo d0 d1 d2 d3 d4 d5 d6
          clear c_X f_X c_N f_N hW
          have HRn := Lib.hid (HRn.out.kept hw)
          have HPn := Lib.hid (HPn.out.kept hw)
          have HQn := Lib.hid (own_below HQn.out hw)
          have B9 := HPn.out.box
          have c9 := fun i => B9.cell i
          have cN := fun i => N.cell i
          clear X hw
          by_cases hc : changeI x k + Q.2 < P.2
          · have HS := Lib.hid (show bestK b.ks.length most (freeB b.ds.length ls) r x (k + 1) = ((k : Int) :: Q.1, changeI x k + Q.2) by
              rw [bestK_succ, HPP.out]; unfold stepP; rw [HQ.out, HQQ.out]; simp [bne, HU.out, hc])
            have N' := N.alloc (.cells #[iv k] 3)
            have cN' := fun i => N'.cell i
            go_wp2_with fail
            have hBw : Below wt.heap.size wt ((wt.alloc (.cells #[iv k] 3)).alloc (.cells #[.slice (some ⟨wt.heap.size, 0, none⟩) 1 1, .slice Au Q.1.length cu] 23)) := up_alloc (up_alloc up0 _) _
            have hQi := ints_of_own (own_below HQn.out hBw) rfl (by omega)
            have hki : IntsAt ((wt.alloc (.cells #[iv k] 3)).alloc (.cells #[.slice (some ⟨wt.heap.size, 0, none⟩) 1 1, .slice Au Q.1.length cu] 23)) (.slice (some ⟨wt.heap.size, 0, none⟩) 1 1) [(k : Int)] := ints_box (l := [(k : Int)]) ((Box.new (w := wt) (t := 3) (cs := #[iv k]) rfl).alloc _) (by simp)
            refine (Concat_any (wt.heap.size + 1) _ _ [(k : Int)] Q.1 _ (Box.new (by simp)) hki hQi (by simp) (by simp; omega)).mono ?_
            rintro e w5 ⟨v, rfl, ho, hb⟩
            have eL : [(k : Int)].length + Q.1.length = ((k : Int) :: Q.1).length := by simp; omega
            rw [eL] at ho
            obtain ⟨A5, p5, rfl⟩ := own_form' ho
            have hB5 := up_later hBw hb
            have HR5 := Lib.hid (HRn.out.kept hB5)
            have HP5 := HPn.out.box.kept hB5
            have ho5 : OwnI w5 (.slice A5 ((k : Int) :: Q.1).length p5) ((k : Int) :: Q.1) := own_mono ho (Nat.zero_le _)
            have HO5 := Lib.hid ho5
            have c9 := fun i => HP5.cell i
            have f9 := fun i => HP5.free i
            have l9 := HP5.lt
            have HP5' := Lib.hid HP5
            clear c9 cN cN' N' N B9 hki hQi hBw hb hB5 ho ho5 eL
            have c9 := fun i => HP5.cell i
            clear HP5
            go_wp2_with fail
            go_roundw
            case rel =>
              have g1 : z ≠ z + 1 + 1 + 1 := by omega
              have g2 : z + 1 ≠ z + 1 + 1 + 1 := by omega
              have g3 : w.heap.size ≤ z + 1 + 1 + 1 := by rw [HZ.out]; omega
              have B := HP5'.out
              refine ⟨k + 1, by omega, by go_num, (.slice A5 (Q.1.length + 1) p5), m2, (HR5.out.put B (i := 0) (u := .slice A5 ((k : Int) :: Q.1).length p5) g1 g2 g3).put (B.put 0 _) (i := 1) (u := iv (changeI x k + Q.2)) g1 g2 g3, ?_⟩
              rw [HS.out]
              exact ⟨Box.put2 B, (HO5.out.put B (by decide)).put (B.put 0 _) (by decide)⟩
            case measure => simp [intOf]; omega
          · have HS := Lib.hid (show bestK b.ks.length most (freeB b.ds.length ls) r x (k + 1) = P by
              rw [bestK_succ, HPP.out]; unfold stepP; rw [HQ.out, HQQ.out]; simp [bne, HU.out, hc])
            go_wp2_with fail
            go_roundw
            case rel => exact ⟨k + 1, by omega, by go_num, _, m2, HRn, by rw [HS.out]; exact HPn⟩
            case measure => simp [intOf]; omega
    · have hke : k = b.ks.length := by omega
      subst hke
      have HPx : Hid (PlanIn wr (w.heap.size + 1 + 1 + 1) (.slice Av (planI b ls most (r + 1) x).1.length cv) (planI b ls most (r + 1) x)) := HP
      obtain ⟨P, hP⟩ : ∃ P, planI b ls most (r + 1) x = P := ⟨_, rfl⟩
      have HPP := Lib.hid hP
      rw [hP] at HPx
      have hgm := HR.out.map
      obtain ⟨w6, hu, hm6, hg6⟩ := run_update hgm x (.agg #[.slice Av P.1.length cv, iv P.2]) (HR.out.new x (Int.le_refl _) HLk.out)
      unfold Eve.val Eve.cells at hu
      have X := HR.out.eve
      have Kn := (HF.out.grown HM.out HR.out.gr).known
      have B9 := HPx.out.box
      have B9' := B9.grown hg6 (B9.ne_map hgm)
      have B6' := HR.out.res.grown hg6 (HR.out.res.ne_map hgm)
      have HM6 := Lib.hid hm6
      have HG6 := Lib.hid hg6
      have HO6 := Lib.hid (HPx.out.own.grown hgm hg6)
      have HB6 := Lib.hid B6'
      have cX := fun i => X.cell i
      have cK := fun i => Kn.cell i
      have c9 := fun i => B9.cell i
      have c9' := fun i => B9'.cell i
      have c6 := fun i => B6'.cell i
      have f6 := fun i => B6'.free i
      have l6 := B6'.lt
      clear X Kn B9 B9' B6' hm6 hg6 hP hgm HP HIH hd'
      go_wp2_with fail
      have N := Box.put2 (u0 := .slice Av P.1.length cv) (u1 := iv P.2) HB6.out
      have cN := fun i => N.cell i
      refine bodyPost_ret (v := .agg #[.slice Av P.1.length cv, iv P.2]) (by simp [results, Try.results101, go_sem, cN]) rfl ?_
      rw [HPP.out]
      have q6 := HB6.out
      have hown : OwnI ((w6.setCell ⟨w.heap.size + 1, 0, none⟩ (.slice Av P.1.length cv)).setCell ⟨w.heap.size + 1, 1, none⟩ (iv P.2)) (.slice Av P.1.length cv) P.1 := (HO6.out.put q6 (by decide)).put (q6.put 0 _) (by decide)
      have gr6 := grown_tr HR.out.gr HG6.out
      refine ⟨_, m' ++ [(x, .agg #[.slice Av P.1.length cv, iv P.2])], rfl, hown, ?_, (HM6.out.put q6).put (q6.put 0 _), ?_, fun q hq hl => ?_⟩
      · refine ⟨gr6.os, gr6.tape, gr6.output, by simpa using gr6.size, fun i hi hne => ?_⟩
        rw [Below.heap_setCell _ ⟨w.heap.size + 1, 1, none⟩ _ i (by simp; omega), Below.heap_setCell _ ⟨w.heap.size + 1, 0, none⟩ _ i (by simp; omega)]
        exact gr6.block i hi hne
      · intro y hy
        rcases List.mem_append.1 hy with hy | hy
        · exact (((HR.out.known.grown HR.out.map HG6.out).put q6 (by decide)).put (q6.put 0 _) (by decide)) y hy
        · have hy : y = (x, .agg #[.slice Av P.1.length cv, iv P.2]) := by simpa using hy
          subst hy
          exact ⟨r + 1, HX.out, _, by rw [HPP.out], by rw [HPP.out]; exact hown⟩
      · exact look_more (HR.out.new q (by omega) hl) (by
          cases hs : q.same x with
          | false => rfl
          | true => have := Eve.same_iff.1 hs; subst this; omega)

end Go.Proofs.Ytkhfkmfofhnmdaa
