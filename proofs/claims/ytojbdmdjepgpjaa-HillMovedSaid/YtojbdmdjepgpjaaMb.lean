/-
  WALKS of the law's 'wall', 'clouds' and 'Land': a land of the reference, as one of the program. Conditions: lists have at most 1000 elements.
-/
import Derived.Test.YtojbdmdjepgpjaaNl
import Derived.Maps.AppendAt
import Derived.Test.YtojbdmdjepgpjaaMa
namespace Go.Proofs.Ytojbdmdjepgpjaa
open Go.RowKit

theorem RowsAt.of_ownM {α : Type} {w : World} {base e sz n : Nat} {v : Value} {cells : α → List Value} {l : List α} (hsz : ∀ x, (cells x).length = sz) (h : w.ownsRow base e sz v n (l.flatMap cells)) (hn : n = l.length) (h1 : l.length ≤ 1000) : RowsAt w v sz cells l := by
  subst hn
  refine ⟨h1, ?_⟩
  rcases h.2 with ⟨rfl, h0⟩ | ⟨g, cap, cur, rfl, _, hg, hnc, hcm, hsz2, htk⟩
  · have : l = [] := List.eq_nil_of_length_eq_zero h0
    subst this
    exact ⟨none, 0, rfl, by simp, by omega, fun h => absurd rfl h⟩
  · refine ⟨_, cap, rfl, hnc, by unfold maxLen at hcm; omega, fun _ => ⟨g, 0, rfl, (Array.getElem?_eq_some_iff.1 hg).1, fun i x hx j u hu => ?_⟩⟩
    have hf := flat_at hsz l i x hx j u hu
    have hi := (List.getElem?_eq_some_iff.1 hx).1
    have hj : j < sz := by rw [← hsz x]; exact (List.getElem?_eq_some_iff.1 hu).1
    have hlt : i * sz + j < l.length * sz := by
      have h2 : (i + 1) * sz ≤ l.length * sz := Nat.mul_le_mul_right _ hi
      rw [Nat.succ_mul] at h2
      omega
    rw [← htk, List.getElem?_take, if_pos hlt] at hf
    rw [cell_of_row w g (0 + i * sz + j) cur e (0, 0) hg, Nat.zero_add]
    simpa using hf

theorem box_newsM {w : World} {g t : Nat} {cs : List Value} (h : Box w g t cs.toArray) : ∀ (j : Nat) (u : Value), cs[j]? = some u → w.cell? ((⟨g, 0, none⟩ : Addr).add j) = some u := by
  intro j u hu
  have e : (⟨g, 0, none⟩ : Addr).add j = ⟨g, j, none⟩ := by
    unfold Addr.add
    by_cases h : j = 0 <;> simp [h]
  rw [e, h.cell j]
  simpa using hu
theorem own_below {w w' : World} {base e size n : Nat} {v : Value} {xs : List Value} (h : w.ownsRow base e size v n xs) (hb : Below w.heap.size w w') : w'.ownsRow base e size v n xs := by
  refine h.kept (grown_of_below hb) ?_
  cases hv : v.ownBlock with
  | none => exact .inl rfl
  | some g => exact .inr (by simp)
theorem take_flat {α : Type} {f : α → List Value} {l : List α} {k : Nat} {x : α} (hx : l[k]? = some x) : (l.take (k + 1)).flatMap f = (l.take k).flatMap f ++ f x := by
  rw [List.take_add_one, hx]
  simp

set_option maxRecDepth 100000 in
set_option maxHeartbeats 1000000 in
theorem Lwall_any (x : Wl) (w : World) : Calls Try.prog 45 #[.agg #[.int .i64 x.x1, .int .i64 x.y1, .int .i64 x.x2, .int .i64 x.y2, .int .i64 x.b, .int .i64 x.t]] w fun e w' =>
    e = .returned (.agg #[.int .i64 x.x1, .int .i64 x.y1, .int .i64 x.x2, .int .i64 x.y2, .int .i64 x.b, .int .i64 x.t]) ∧ Below w.heap.size w w' := by
  go_enter Try.func45, Try.ntmps45
  go_wp2
  have N := Box.new (w := w.alloc (.cells #[iv x.x1, iv x.y1, iv x.x2, iv x.y2, iv x.b, iv x.t] 79)) (g := w.heap.size + 1) (t := 68) (cs := #[iv x.x1, iv x.y1, iv x.x2, iv x.y2, iv x.b, iv x.t]) (by simp)
  refine bodyPost_ret (v := .agg #[.int .i64 x.x1, .int .i64 x.y1, .int .i64 x.x2, .int .i64 x.y2, .int .i64 x.b, .int .i64 x.t]) (by
    have cN := fun i => N.cell i
    simp [results, Try.results45, go_sem, cN]) rfl ⟨rfl, up_alloc (up_alloc up0 _) _⟩

theorem info70 : (Try.prog.info? 70).map (fun i => (i.zero, i.size, i.bytes)) = some (some (.agg #[iv 0, iv 0, iv 0, iv 0, iv 0, iv 0, iv 0, iv 0]), 8, 64) := by kernel_rfl

set_option maxRecDepth 100000 in
set_option maxHeartbeats 2000000 in
theorem Lclouds_any (v : Value) (l : List Cl) (w : World) (hl : RowsAt w v 8 Cl.cells l) :
    Calls Try.prog 46 #[v] w fun e w' => ∃ u, e = .returned u ∧ w'.ownsRow w.heap.size 70 8 u l.length (l.flatMap Cl.cells) ∧ Below w.heap.size w w' := by
  obtain ⟨i0, hi, hz0, hz1, hz2⟩ := info_parts info70
  obtain ⟨hn, A, cap, rfl, _, _⟩ := hl.form
  have HL := Lib.hid hl
  clear hl
  go_enter Try.func46, Try.ntmps46
  go_wp2_with fail
  go_loopw [3, 4] (fun u q wr => ∃ k : Nat, k ≤ l.length ∧ q = .int .i64 k ∧ wr.ownsRow w.heap.size 70 8 u k ((l.take k).flatMap Cl.cells) ∧ Below w.heap.size w wr) (fun _ q _ => l.length - (intOf q).toNat)
  case atStart => exact ⟨0, by omega, rfl, by simpa using World.ownsRow_nil _ _ _ _, up0⟩
  case round =>
    obtain ⟨k, hk, rfl, hown, hB⟩ := hrel
    have HO := Lib.hid hown
    by_cases hlt : k < l.length
    · obtain ⟨x, hx⟩ : ∃ x, l[k]? = some x := ⟨_, List.getElem?_eq_getElem hlt⟩
      have HR := Lib.hid (HL.out.kept hB)
      obtain ⟨b, off, rfl, hb, _⟩ := HR.out.at rfl hx
      have Hx := Lib.hid hx
      have k0 : (0 : Int) ≤ (k : Int) := by omega
      have k1 : (k : Int) < (l.length : Int) := by omega
      clear hx hown
      go_wp2_with fail
      apply wp_region_by 19 [(Fact.eq _), (Fact.eq _), (Fact.eq _), (Fact.eq _), (Fact.eq _), (Fact.eq _), (Fact.eq _), (Fact.eq _), (Fact.eq _), (Fact.eq _), (Fact.eq _), (Fact.eq _), (Fact.eq _), (Fact.eq _), (Fact.eq _), (Fact.eq _), (Fact.eq _), (Fact.eq _), (Fact.sl 1 70 #[iv x.w.x1, iv x.w.y1, iv x.w.x2, iv x.w.y2, iv x.w.b, iv x.w.t, iv x.f, iv x.t])]
      case hm => kernel_rfl
      case hB => kernel_rfl
      case hA => (intro vs; simp only [List.take_succ_cons, List.take_zero, putAll, if_true, Act.put, List.setIfInBounds_toArray, List.set_cons_zero, List.set_cons_succ]; exact rfl)
      case hstep =>
        intro vs
        refine And.intro (fun w hw hd => ?_) ?_
        · refine ite_yes rfl ?_
          simp only [Gives]
          go_simp
          exact ⟨Below.refl _ _, rfl, fun h => by cases h⟩
        refine And.intro (fun w hw hd => ?_) ?_
        · refine ite_yes rfl ?_
          simp only [Gives]
          go_simp
          exact ⟨Below.refl _ _, rfl, fun h => by cases h⟩
        refine And.intro (fun w hw hd => ?_) ?_
        · refine ite_yes rfl ?_
          simp only [Gives]
          go_simp
          exact ⟨Below.refl _ _, rfl, fun h => by cases h⟩
        refine And.intro (fun w hw hd => ?_) ?_
        · have d1 := hd 1 (by decide) rfl
          change vs 1 = _ at d1
          have d2 := hd 2 (by decide) rfl
          change vs 2 = _ at d2
          refine ite_yes rfl ?_
          simp only [Gives]
          go_simp
          exact ⟨Below.refl _ _, rfl, fun h => by cases h⟩
        refine And.intro (fun w hw hd => ?_) ?_
        · have d3 := hd 3 (by decide) rfl
          change vs 3 = _ at d3
          refine ite_yes rfl ?_
          simp only [Gives]
          go_simp
          exact ⟨Below.refl _ _, rfl, fun h => by cases h⟩
        refine And.intro (fun w hw hd => ?_) ?_
        · have d4 := hd 4 (by decide) rfl
          change vs 4 = _ at d4
          refine ite_yes rfl ?_
          have q0 : w.cell? ⟨b, off + k * 8, none⟩ = some (.int .i64 x.w.x1) := (HR.out.kept hw).cellAt Hx.out (j := 0) rfl
          have q1 : w.cell? ⟨b, off + k * 8 + 1, none⟩ = some (.int .i64 x.w.y1) := (HR.out.kept hw).cellAt Hx.out (j := 1) rfl
          have q2 : w.cell? ⟨b, off + k * 8 + 2, none⟩ = some (.int .i64 x.w.x2) := (HR.out.kept hw).cellAt Hx.out (j := 2) rfl
          have q3 : w.cell? ⟨b, off + k * 8 + 3, none⟩ = some (.int .i64 x.w.y2) := (HR.out.kept hw).cellAt Hx.out (j := 3) rfl
          have q4 : w.cell? ⟨b, off + k * 8 + 4, none⟩ = some (.int .i64 x.w.b) := (HR.out.kept hw).cellAt Hx.out (j := 4) rfl
          have q5 : w.cell? ⟨b, off + k * 8 + 5, none⟩ = some (.int .i64 x.w.t) := (HR.out.kept hw).cellAt Hx.out (j := 5) rfl
          simp only [Gives]
          go_simp
          exact ⟨Below.refl _ _, rfl, fun h => by cases h⟩
        refine And.intro (fun w hw hd => ?_) ?_
        · have d5 := hd 5 (by decide) rfl
          change vs 5 = _ at d5
          refine ite_yes rfl ?_
          simp only [Gives]
          go_simp
          refine (Lwall_any x.w _).mono ?_
          rintro e w1 ⟨rfl, hb⟩
          exact ⟨_, rfl, hb, rfl, fun h => by cases h⟩
        refine And.intro (fun w hw hd => ?_) ?_
        · refine ite_yes rfl ?_
          simp only [Gives]
          go_simp
          exact ⟨Below.refl _ _, rfl, fun h => by cases h⟩
        refine And.intro (fun w hw hd => ?_) ?_
        · refine ite_yes rfl ?_
          simp only [Gives]
          go_simp
          exact ⟨Below.refl _ _, rfl, fun h => by cases h⟩
        refine And.intro (fun w hw hd => ?_) ?_
        · have d7 := hd 7 (by decide) rfl
          change vs 7 = _ at d7
          have d8 := hd 8 (by decide) rfl
          change vs 8 = _ at d8
          refine ite_yes rfl ?_
          simp only [Gives]
          go_simp
          exact ⟨Below.refl _ _, rfl, fun h => by cases h⟩
        refine And.intro (fun w hw hd => ?_) ?_
        · have d9 := hd 9 (by decide) rfl
          change vs 9 = _ at d9
          refine ite_yes rfl ?_
          simp only [Gives]
          go_simp
          exact ⟨Below.refl _ _, rfl, fun h => by cases h⟩
        refine And.intro (fun w hw hd => ?_) ?_
        · have d10 := hd 10 (by decide) rfl
          change vs 10 = _ at d10
          refine ite_yes rfl ?_
          have q6 : w.cell? ⟨b, off + k * 8 + 6, none⟩ = some (.int .i64 x.f) := (HR.out.kept hw).cellAt Hx.out (j := 6) rfl
          have q7 : w.cell? ⟨b, off + k * 8 + 7, none⟩ = some (.int .i64 x.t) := (HR.out.kept hw).cellAt Hx.out (j := 7) rfl
          simp only [Gives]
          go_simp
          exact ⟨Below.refl _ _, rfl, fun h => by cases h⟩
        refine And.intro (fun w hw hd => ?_) ?_
        · refine ite_yes rfl ?_
          simp only [Gives]
          go_simp
          exact ⟨Below.refl _ _, rfl, fun h => by cases h⟩
        refine And.intro (fun w hw hd => ?_) ?_
        · refine ite_yes rfl ?_
          simp only [Gives]
          go_simp
          exact ⟨Below.refl _ _, rfl, fun h => by cases h⟩
        refine And.intro (fun w hw hd => ?_) ?_
        · have d12 := hd 12 (by decide) rfl
          change vs 12 = _ at d12
          have d13 := hd 13 (by decide) rfl
          change vs 13 = _ at d13
          refine ite_yes rfl ?_
          simp only [Gives]
          go_simp
          exact ⟨Below.refl _ _, rfl, fun h => by cases h⟩
        refine And.intro (fun w hw hd => ?_) ?_
        · have d14 := hd 14 (by decide) rfl
          change vs 14 = _ at d14
          refine ite_yes rfl ?_
          simp only [Gives]
          go_simp
          exact ⟨Below.refl _ _, rfl, fun h => by cases h⟩
        refine And.intro (fun w hw hd => ?_) ?_
        · have d15 := hd 15 (by decide) rfl
          change vs 15 = _ at d15
          refine ite_yes rfl ?_
          have q6 : w.cell? ⟨b, off + k * 8 + 6, none⟩ = some (.int .i64 x.f) := (HR.out.kept hw).cellAt Hx.out (j := 6) rfl
          have q7 : w.cell? ⟨b, off + k * 8 + 7, none⟩ = some (.int .i64 x.t) := (HR.out.kept hw).cellAt Hx.out (j := 7) rfl
          simp only [Gives]
          go_simp
          exact ⟨Below.refl _ _, rfl, fun h => by cases h⟩
        refine And.intro (fun w hw hd => ?_) ?_
        · have d6 := hd 6 (by decide) rfl
          change vs 6 = _ at d6
          have d11 := hd 11 (by decide) rfl
          change vs 11 = _ at d11
          have d16 := hd 16 (by decide) rfl
          change vs 16 = _ at d16
          refine ite_yes rfl ?_
          simp only [Gives]
          go_simp
          exact ⟨Below.refl _ _, rfl, fun h => by cases h⟩
        refine And.intro (fun w hw hd => ?_) ?_
        · have d17 := hd 17 (by decide) rfl
          change vs 17 = _ at d17
          refine ite_yes rfl ?_
          simp only [Gives]
          go_simp
          exact ⟨(Below.refl _ _).alloc (Nat.le_refl _) _, ⟨_, rfl, Box.new rfl⟩, fun h => by cases h⟩
        exact trivial
      intro vs wt hw hd hne hlo
      have d0 := hd 0 (by decide)
      change vs 0 = _ at d0
      have d1 := hd 1 (by decide)
      change vs 1 = _ at d1
      have d2 := hd 2 (by decide)
      change vs 2 = _ at d2
      have d3 := hd 3 (by decide)
      change vs 3 = _ at d3
      have d4 := hd 4 (by decide)
      change vs 4 = _ at d4
      have d5 := hd 5 (by decide)
      change vs 5 = _ at d5
      have d6 := hd 6 (by decide)
      change vs 6 = _ at d6
      have d7 := hd 7 (by decide)
      change vs 7 = _ at d7
      have d8 := hd 8 (by decide)
      change vs 8 = _ at d8
      have d9 := hd 9 (by decide)
      change vs 9 = _ at d9
      have d10 := hd 10 (by decide)
      change vs 10 = _ at d10
      have d11 := hd 11 (by decide)
      change vs 11 = _ at d11
      have d12 := hd 12 (by decide)
      change vs 12 = _ at d12
      have d13 := hd 13 (by decide)
      change vs 13 = _ at d13
      have d14 := hd 14 (by decide)
      change vs 14 = _ at d14
      have d15 := hd 15 (by decide)
      change vs 15 = _ at d15
      have d16 := hd 16 (by decide)
      change vs 16 = _ at d16
      have d17 := hd 17 (by decide)
      change vs 17 = _ at d17
      have d18 := hd 18 (by decide)
      obtain ⟨n18, d18, N18⟩ := d18
      simp only [d0, d1, d2, d3, d4, d5, d6, d7, d8, d9, d10, d11, d12, d13, d14, d15, d16, d17, List.drop_succ_cons, List.drop_zero]
      clear hd hne hlo d0 d1 d2 d3 d4 d5 d6 d7 d8 d9 d10 d11 d12 d13 d14 d15 d16 d17
      simp only [d18]
      have hown := own_below HO.out hw
      have hsz := hB.size
      have hsz2 := hw.size
      go_wp2_with (at_builtin; refine wpList_append_own_at _ rfl _ _ 71 rfl w.heap.size 70 i0 (.agg #[iv 0, iv 0, iv 0, iv 0, iv 0, iv 0, iv 0, iv 0]) 8 64 Try.underlying71 hi hz0 hz1 hz2 rfl (by decide) _ _ _ rfl hown ⟨n18, 0, none⟩ 1 1 [iv x.w.x1, iv x.w.y1, iv x.w.x2, iv x.w.y2, iv x.w.b, iv x.w.t, iv x.f, iv x.t] rfl rfl (box_newsM N18) (by simp [Value.oneCell']) (by unfold maxLen; omega) (by omega) (by omega) ?_; intro v' w2 hown' hgrow _ hat)
      have hB2 : Below w.heap.size w w2 := (up_later hB hw).grown hgrow (by omega) fun g e => (hown.lt g e).1
      refine ⟨⟨k + 1, by omega, by go_num, ?_, hB2⟩, by simp [intOf]; omega⟩
      rw [take_flat Hx.out]
      exact hown'
    · obtain rfl : k = l.length := by omega
      clear hown
      go_wp2_with fail
      go_ret
      exact ⟨_, rfl, by simpa using HO.out, hB⟩

end Go.Proofs.Ytojbdmdjepgpjaa

namespace Go.Proofs.Ytojbdmdjepgpjaa
open Go.RowKit

theorem grownBy_set (W : World) (b i : Nat) (v : Value) : W.grownBy (W.setCell ⟨b, i, none⟩ v) (some b) :=
  ⟨rfl, rfl, rfl, by simp [World.setCell], fun k _ hk => Below.heap_setCell _ ⟨b, i, none⟩ _ k (fun e => hk (by rw [e]))⟩
section
variable {w w2 : World} {n e sz k n' e' sz' k' : Nat} {v v' : Value} {xs xs' : List Value}
theorem own_ne (h : w.ownsRow n e sz v k xs) (h' : w.ownsRow n' e' sz' v' k' xs') (hee : e ≠ e') : v.ownBlock = none ∨ v.ownBlock ≠ v'.ownBlock := by
  rcases h.2 with ⟨rfl, _⟩ | ⟨g, cap, cur, rfl, _, hgb, _⟩
  · exact .inl rfl
  · refine .inr fun e1 => ?_
    rcases h'.2 with ⟨rfl, _⟩ | ⟨g', cap', cur', rfl, _, hgb', _⟩
    · simp [Value.ownBlock] at e1
    · obtain rfl : g = g' := by simpa [Value.ownBlock] using e1
      rw [hgb] at hgb'
      injection hgb' with h1
      injection h1 with _ h2
      exact hee h2
theorem own_other (h : w.ownsRow n e sz v k xs) (h' : w.ownsRow n' e' sz' v' k' xs') (hee : e ≠ e') (hg : w.grownBy w2 v'.ownBlock) : w2.ownsRow n e sz v k xs := h.kept hg (own_ne h h' hee)
theorem box_not_own {B t : Nat} {cs : Array Value} (hb : Box w B t cs) (hte : t ≠ e) (h : w.ownsRow n e sz v k xs) : some B ≠ v.ownBlock := by
  rcases h.2 with ⟨rfl, _⟩ | ⟨g, cap, cur, rfl, _, hgb, _⟩
  · simp [Value.ownBlock]
  · intro e1
    obtain rfl : B = g := by simpa [Value.ownBlock] using e1
    unfold Box at hb
    rw [hb] at hgb
    injection hgb with h1
    injection h1 with _ h2
    exact hte h2
theorem own_set {B t i : Nat} {cs : Array Value} {u : Value} (h : w.ownsRow n e sz v k xs) (hb : Box w B t cs) (hte : t ≠ e) : (w.setCell ⟨B, i, none⟩ u).ownsRow n e sz v k xs := h.kept (grownBy_set w B i u) (.inr fun e1 => box_not_own hb hte h e1.symm)
end

/-- The land as far as it is built: so many stations, ridges, cases and suns. -/
structure Out (n0 : Nat) (ins : Array Value) (L : Ld) (w : World) (k1 k2 k3 k4 : Nat) (u1 u2 u3 u4 : Value) (c : List (Value × List Cl)) : Prop where
  inb : Box w n0 27 ins
  res : Box w (n0 + 1) 37 #[.slice none 0 0, .slice none 0 0, .slice none 0 0, .slice none 0 0]
  out : Box w (n0 + 2) 37 #[u1, u2, u3, u4]
  o1 : w.ownsRow n0 66 4 u1 k1 ((L.st.take k1).flatMap St.cells)
  o2 : w.ownsRow n0 68 6 u2 k2 ((L.rg.take k2).flatMap Wl.cells)
  o3 : w.ownsRow n0 71 1 u3 k3 (c.map (·.1))
  o4 : w.ownsRow n0 91 3 u4 k4 ((L.sn.take k4).flatMap Sn.cells)
  ec : c.map (·.2) = L.cs.take k3
  each : ∀ x ∈ c, w.ownsRow n0 70 8 x.1 x.2.length (x.2.flatMap Cl.cells)
section
variable {n0 : Nat} {ins : Array Value} {L : Ld} {w w2 : World} {k1 k2 k3 k4 : Nat} {u1 u2 u3 u4 u' : Value} {c : List (Value × List Cl)}
theorem Out.kept (h : Out n0 ins L w k1 k2 k3 k4 u1 u2 u3 u4 c) (hb : Below w.heap.size w w2) : Out n0 ins L w2 k1 k2 k3 k4 u1 u2 u3 u4 c :=
  ⟨h.inb.kept hb, h.res.kept hb, h.out.kept hb, own_below h.o1 hb, own_below h.o2 hb, own_below h.o3 hb, own_below h.o4 hb, h.ec, fun x hx => own_below (h.each x hx) hb⟩
theorem Out.put1 {x : St} (h : Out n0 ins L w k1 k2 k3 k4 u1 u2 u3 u4 c) (hx : L.st[k1]? = some x) (hg : w.grownBy w2 u1.ownBlock) (ho : w2.ownsRow n0 66 4 u' (k1 + 1) ((L.st.take k1).flatMap St.cells ++ St.cells x)) : Out n0 ins L (w2.setCell ⟨n0 + 2, 0, none⟩ u') (k1 + 1) k2 k3 k4 u' u2 u3 u4 c := by
  have hb := h.out.grown hg (box_not_own h.out (by decide) h.o1)
  have hO := Only.set w2 (n0 + 2) 0 u'
  refine ⟨(h.inb.grown hg (box_not_own h.inb (by decide) h.o1)).only hO (by omega), (h.res.grown hg (box_not_own h.res (by decide) h.o1)).only hO (by omega), hb.put 0 u', ?_, own_set (own_other h.o2 h.o1 (by decide) hg) hb (by decide), own_set (own_other h.o3 h.o1 (by decide) hg) hb (by decide), own_set (own_other h.o4 h.o1 (by decide) hg) hb (by decide), h.ec, fun x hx => own_set (own_other (h.each x hx) h.o1 (by decide) hg) hb (by decide)⟩
  rw [take_flat hx]
  exact own_set ho hb (by decide)
theorem Out.put2 {x : Wl} (h : Out n0 ins L w k1 k2 k3 k4 u1 u2 u3 u4 c) (hx : L.rg[k2]? = some x) (hg : w.grownBy w2 u2.ownBlock) (ho : w2.ownsRow n0 68 6 u' (k2 + 1) ((L.rg.take k2).flatMap Wl.cells ++ Wl.cells x)) : Out n0 ins L (w2.setCell ⟨n0 + 2, 1, none⟩ u') k1 (k2 + 1) k3 k4 u1 u' u3 u4 c := by
  have hb := h.out.grown hg (box_not_own h.out (by decide) h.o2)
  have hO := Only.set w2 (n0 + 2) 1 u'
  refine ⟨(h.inb.grown hg (box_not_own h.inb (by decide) h.o2)).only hO (by omega), (h.res.grown hg (box_not_own h.res (by decide) h.o2)).only hO (by omega), hb.put 1 u', own_set (own_other h.o1 h.o2 (by decide) hg) hb (by decide), ?_, own_set (own_other h.o3 h.o2 (by decide) hg) hb (by decide), own_set (own_other h.o4 h.o2 (by decide) hg) hb (by decide), h.ec, fun x hx => own_set (own_other (h.each x hx) h.o2 (by decide) hg) hb (by decide)⟩
  rw [take_flat hx]
  exact own_set ho hb (by decide)
theorem Out.put4 {x : Sn} (h : Out n0 ins L w k1 k2 k3 k4 u1 u2 u3 u4 c) (hx : L.sn[k4]? = some x) (hg : w.grownBy w2 u4.ownBlock) (ho : w2.ownsRow n0 91 3 u' (k4 + 1) ((L.sn.take k4).flatMap Sn.cells ++ Sn.cells x)) : Out n0 ins L (w2.setCell ⟨n0 + 2, 3, none⟩ u') k1 k2 k3 (k4 + 1) u1 u2 u3 u' c := by
  have hb := h.out.grown hg (box_not_own h.out (by decide) h.o4)
  have hO := Only.set w2 (n0 + 2) 3 u'
  refine ⟨(h.inb.grown hg (box_not_own h.inb (by decide) h.o4)).only hO (by omega), (h.res.grown hg (box_not_own h.res (by decide) h.o4)).only hO (by omega), hb.put 3 u', own_set (own_other h.o1 h.o4 (by decide) hg) hb (by decide), own_set (own_other h.o2 h.o4 (by decide) hg) hb (by decide), own_set (own_other h.o3 h.o4 (by decide) hg) hb (by decide), ?_, h.ec, fun x hx => own_set (own_other (h.each x hx) h.o4 (by decide) hg) hb (by decide)⟩
  rw [take_flat hx]
  exact own_set ho hb (by decide)
theorem Out.put3 {zs : List Cl} {z : Value} (h : Out n0 ins L w k1 k2 k3 k4 u1 u2 u3 u4 c) (hx : L.cs[k3]? = some zs) (hz : w.ownsRow n0 70 8 z zs.length (zs.flatMap Cl.cells)) (hg : w.grownBy w2 u3.ownBlock) (ho : w2.ownsRow n0 71 1 u' (k3 + 1) (c.map (·.1) ++ [z])) : Out n0 ins L (w2.setCell ⟨n0 + 2, 2, none⟩ u') k1 k2 (k3 + 1) k4 u1 u2 u' u4 (c ++ [(z, zs)]) := by
  have hb := h.out.grown hg (box_not_own h.out (by decide) h.o3)
  have hO := Only.set w2 (n0 + 2) 2 u'
  refine ⟨(h.inb.grown hg (box_not_own h.inb (by decide) h.o3)).only hO (by omega), (h.res.grown hg (box_not_own h.res (by decide) h.o3)).only hO (by omega), hb.put 2 u', own_set (own_other h.o1 h.o3 (by decide) hg) hb (by decide), own_set (own_other h.o2 h.o3 (by decide) hg) hb (by decide), ?_, own_set (own_other h.o4 h.o3 (by decide) hg) hb (by decide), ?_, fun x hx => ?_⟩
  · have := own_set ho hb (t := 37) (i := 2) (u := u') (by decide)
    simpa using this
  · rw [List.take_add_one, hx, List.map_append, h.ec]
    rfl
  · rcases List.mem_append.1 hx with hx | hx
    · exact own_set (own_other (h.each x hx) h.o3 (by decide) hg) hb (by decide)
    · rw [List.mem_singleton.1 hx]
      exact own_set (own_other hz h.o3 (by decide) hg) hb (by decide)
theorem flat_one (c : List (Value × List Cl)) : c.flatMap (fun x => [x.1]) = c.map (·.1) := by
  induction c with
  | nil => rfl
  | cons a c ih => rw [List.flatMap_cons, ih]; rfl
/-- The four lists, built whole. -/
structure Own4 (n0 : Nat) (L : Ld) (w : World) (u1 u2 u3 u4 : Value) (c : List (Value × List Cl)) : Prop where
  o1 : w.ownsRow n0 66 4 u1 L.st.length (L.st.flatMap St.cells)
  o2 : w.ownsRow n0 68 6 u2 L.rg.length (L.rg.flatMap Wl.cells)
  o3 : w.ownsRow n0 71 1 u3 L.cs.length (c.map (·.1))
  o4 : w.ownsRow n0 91 3 u4 L.sn.length (L.sn.flatMap Sn.cells)
  ec : c.map (·.2) = L.cs
  each : ∀ x ∈ c, w.ownsRow n0 70 8 x.1 x.2.length (x.2.flatMap Cl.cells)
theorem Out.four (h : Out n0 ins L w L.st.length L.rg.length L.cs.length L.sn.length u1 u2 u3 u4 c) : Own4 n0 L w u1 u2 u3 u4 c := by
  have o1 := h.o1
  have o2 := h.o2
  have o4 := h.o4
  have ec := h.ec
  rw [List.take_length] at o1 o2 o4 ec
  exact ⟨o1, o2, h.o3, o4, ec, h.each⟩
theorem Own4.set {B i : Nat} {cs : Array Value} {u : Value} (h : Own4 n0 L w u1 u2 u3 u4 c) (hb : Box w B 37 cs) : Own4 n0 L (w.setCell ⟨B, i, none⟩ u) u1 u2 u3 u4 c :=
  ⟨own_set h.o1 hb (by decide), own_set h.o2 hb (by decide), own_set h.o3 hb (by decide), own_set h.o4 hb (by decide), h.ec, fun x hx => own_set (h.each x hx) hb (by decide)⟩
theorem Own4.land (h : Own4 n0 L w u1 u2 u3 u4 c) (h1 : L.st.length ≤ 1000) (h2 : L.rg.length ≤ 1000) (h3 : L.cs.length ≤ 1000) (h4 : L.sn.length ≤ 1000) (h5 : ∀ x ∈ L.cs, x.length ≤ 1000) : LandAt w u1 u2 u3 u4 L c := by
  have hcl : c.length = L.cs.length := by rw [← h.ec]; simp
  refine ⟨RowsAt.of_ownM (fun _ => rfl) h.o1 rfl h1, RowsAt.of_ownM (fun _ => rfl) h.o2 rfl h2, RowsAt.of_ownM (l := c) (cells := fun x => [x.1]) (fun _ => rfl) (by rw [flat_one]; exact h.o3) hcl.symm (by omega), h.ec, fun x hx => RowsAt.of_ownM (fun _ => rfl) (h.each x hx) rfl (h5 _ (by rw [← h.ec]; exact List.mem_map.2 ⟨x, hx, rfl⟩)), RowsAt.of_ownM (fun _ => rfl) h.o4 rfl h4⟩
end

end Go.Proofs.Ytojbdmdjepgpjaa

namespace Go.Proofs.Ytojbdmdjepgpjaa
open Go.RowKit

theorem info66 : (Try.prog.info? 66).map (fun i => (i.zero, i.size, i.bytes)) = some (some (.agg #[iv 0, iv 0, iv 0, iv 0]), 4, 32) := by kernel_rfl
theorem info68 : (Try.prog.info? 68).map (fun i => (i.zero, i.size, i.bytes)) = some (some (.agg #[iv 0, iv 0, iv 0, iv 0, iv 0, iv 0]), 6, 48) := by kernel_rfl
theorem info71 : (Try.prog.info? 71).map (fun i => (i.zero, i.size, i.bytes)) = some (some (.slice none 0 0), 1, 24) := by kernel_rfl
theorem info91 : (Try.prog.info? 91).map (fun i => (i.zero, i.size, i.bytes)) = some (some (.agg #[iv 0, iv 0, iv 0]), 3, 24) := by kernel_rfl

theorem own_mono {w : World} {n0 n1 e sz n : Nat} {v : Value} {xs : List Value} (h : w.ownsRow n1 e sz v n xs) (hn : n0 ≤ n1) : w.ownsRow n0 e sz v n xs :=
  ⟨h.1, h.2.elim .inl fun ⟨g, cap, cur, h1, h2, h3⟩ => .inr ⟨g, cap, cur, h1, Nat.le_trans hn h2, h3⟩⟩
theorem own_form {w : World} {n0 e sz n : Nat} {v : Value} {xs : List Value} (h : w.ownsRow n0 e sz v n xs) : ∃ A m p, v = .slice A m p := by
  rcases h.2 with ⟨rfl, _⟩ | ⟨g, cap, cur, rfl, _⟩
  · exact ⟨_, _, _, rfl⟩
  · exact ⟨_, _, _, rfl⟩
/-- A slice that owns its cells. -/
def Fact.own (n0 e sz n : Nat) (xs : List Value) : Fact := ⟨fun v w => ∃ A m p, v = .slice A m p ∧ w.ownsRow n0 e sz v n xs, fun _ _ _ ⟨A, m, p, h, h1⟩ hb => ⟨A, m, p, h, own_below h1 hb⟩, false, fun _ _ h => by cases h⟩
/-- A slice over one cell, which holds a slice that owns its cells. -/
def Fact.so (t n0 e sz n : Nat) (xs : List Value) : Fact := ⟨fun v w => ∃ g z, v = .slice (some ⟨g, 0, none⟩) 1 1 ∧ Box w g t #[z] ∧ w.ownsRow n0 e sz z n xs, fun _ _ _ ⟨g, z, h1, h2, h3⟩ hb => ⟨g, z, h1, h2.kept hb, own_below h3 hb⟩, false, fun _ _ h => by cases h⟩

set_option maxRecDepth 100000 in
set_option maxHeartbeats 4000000 in
theorem Land_any (v1 v2 v3 v4 : Value) (L : Ld) (c : List (Value × List Cl)) (w : World) (hL : LandAt w v1 v2 v3 v4 L c) :
    Calls Try.prog 18 #[.agg #[v1, v2, v3, v4]] w fun e w' => ∃ u1 u2 u3 u4 c', e = .returned (.agg #[u1, u2, u3, u4]) ∧ LandAt w' u1 u2 u3 u4 L c' ∧ Below w.heap.size w w' := by
  obtain ⟨i1, hi1, hz10, hz11, hz12⟩ := info_parts info66
  obtain ⟨i2, hi2, hz20, hz21, hz22⟩ := info_parts info68
  obtain ⟨i3, hi3, hz30, hz31, hz32⟩ := info_parts info71
  obtain ⟨i4, hi4, hz40, hz41, hz42⟩ := info_parts info91
  have HL := Lib.hid hL
  obtain ⟨hn1, A1, cap1, rfl, _, _⟩ := hL.st.form
  obtain ⟨hn2, A2, cap2, rfl, _, _⟩ := hL.rg.form
  obtain ⟨hn3, A3, cap3, rfl, _, _⟩ := hL.cs.form
  obtain ⟨hn4, A4, cap4, rfl, _, _⟩ := hL.sn.form
  have Hcl := Lib.hid (cs_len hL.eq)
  clear hL
  obtain ⟨ins, hins⟩ : ∃ ins : Array Value, ins = #[.slice A1 L.st.length cap1, .slice A2 L.rg.length cap2, .slice A3 c.length cap3, .slice A4 L.sn.length cap4] := ⟨_, rfl⟩
  have Hins := Lib.hid hins
  clear hins
  go_enter Try.func18, Try.ntmps18
  go_wp2_with fail
  have O0 : Out w.heap.size ins L (((w.alloc (.cells #[.slice A1 L.st.length cap1, .slice A2 L.rg.length cap2, .slice A3 c.length cap3, .slice A4 L.sn.length cap4] 27)).alloc (.cells #[.slice none 0 0, .slice none 0 0, .slice none 0 0, .slice none 0 0] 37)).alloc (.cells #[.slice none 0 0, .slice none 0 0, .slice none 0 0, .slice none 0 0] 37)) 0 0 0 0 (.slice none 0 0) (.slice none 0 0) (.slice none 0 0) (.slice none 0 0) [] :=
    ⟨by rw [Hins.out]; exact ((Box.new rfl).alloc _).alloc _, (Box.new (by simp)).alloc _, Box.new (by simp), World.ownsRow_nil _ _ _ _, World.ownsRow_nil _ _ _ _, World.ownsRow_nil _ _ _ _, World.ownsRow_nil _ _ _ _, by simp, fun x hx => by cases hx⟩
  have HO0 := Lib.hid O0
  have hB0 := up_alloc (up_alloc (up_alloc (up0 (w := w)) (.cells #[.slice A1 L.st.length cap1, .slice A2 L.rg.length cap2, .slice A3 c.length cap3, .slice A4 L.sn.length cap4] 27)) (.cells #[.slice none 0 0, .slice none 0 0, .slice none 0 0, .slice none 0 0] 37)) (.cells #[.slice none 0 0, .slice none 0 0, .slice none 0 0, .slice none 0 0] 37)
  have HB0 := Lib.hid hB0
  clear O0 hB0
  go_loopw [4] (fun q wr => ∃ k : Nat, k ≤ L.st.length ∧ q = .int .i64 k ∧ ∃ u1, Hid (Out w.heap.size ins L wr k 0 0 0 u1 (.slice none 0 0) (.slice none 0 0) (.slice none 0 0) []) ∧ Hid (Below w.heap.size w wr)) (fun q _ => L.st.length - (intOf q).toNat)
  case atStart => exact ⟨0, by omega, rfl, _, HO0.out, HB0.out⟩
  case round =>
    clear HO0 HB0
    obtain ⟨k, hk, rfl, u1, hO, hB⟩ := hrel
    have hin := hO.out.inb
    rw [Hins.out] at hin
    have c_in := fun i => hin.cell i
    have k0 : (0 : Int) ≤ (k : Int) := by omega
    by_cases hlt : k < L.st.length
    · obtain ⟨x, hx⟩ : ∃ x, L.st[k]? = some x := ⟨_, List.getElem?_eq_getElem hlt⟩
      have HR := Lib.hid (HL.out.st.kept hB.out)
      obtain ⟨b, off, rfl, hb, hc⟩ := HR.out.at rfl hx
      have Hx := Lib.hid hx
      have k1 : (k : Int) < (L.st.length : Int) := by omega
      have q0 : wr.cell? ⟨b, off + k * 4, none⟩ = some (.int .i64 x.x) := hc 0 _ rfl
      have q1 : wr.cell? ⟨b, off + k * 4 + 1, none⟩ = some (.int .i64 x.y) := hc 1 _ rfl
      have q2 : wr.cell? ⟨b, off + k * 4 + 2, none⟩ = some (.int .i64 x.z) := hc 2 _ rfl
      have q3 : wr.cell? ⟨b, off + k * 4 + 3, none⟩ = some (.int .i64 x.m) := hc 3 _ rfl
      have hout := hO.out.out
      have c_out := fun i o => (hout.alloc o).cell i
      have hown := hO.out.o1
      have HOU := Lib.hid ((hO.out.kept (up_alloc up0 (.cells #[iv x.x, iv x.y, iv x.z, iv x.m] 74))).kept (up_alloc up0 (.cells #[iv x.x, iv x.y, iv x.z, iv x.m] 66)))
      have hszB := hB.out.size
      clear hc hx
      go_wp2_with (at_builtin; refine wpList_append_own_at _ rfl _ _ 32 rfl w.heap.size 66 i1 (.agg #[iv 0, iv 0, iv 0, iv 0]) 4 32 Try.underlying32 hi1 hz10 hz11 hz12 rfl (by decide) _ _ _ rfl HOU.out.o1 ⟨wr.heap.size + 1, 0, none⟩ 1 1 [iv x.x, iv x.y, iv x.z, iv x.m] rfl rfl (box_newsM (Box.new (by simp))) (by simp [Value.oneCell']) (by unfold maxLen; omega) (by omega) (by simp; omega) ?_; intro v' w2 hown' hgrow _ hat; obtain ⟨g', cap', rfl⟩ := ownsRow_succ hown'; have hbo := HOU.out.out.grown hgrow (box_not_own HOU.out.out (by decide) HOU.out.o1); have hc1 := fun i => hbo.cell i; have hf1 := fun i => hbo.free i)
      exact ⟨⟨k + 1, by omega, by go_num, _, HOU.out.put1 Hx.out hgrow hown', up_put ((up_alloc (up_alloc hB.out (.cells #[iv x.x, iv x.y, iv x.z, iv x.m] 74)) (.cells #[iv x.x, iv x.y, iv x.z, iv x.m] 66)).grown hgrow (by simp; omega) fun g e => (HOU.out.o1.lt g e).1) (p := ⟨w.heap.size + 1 + 1, 0, none⟩) (by simp; omega) _⟩, by simp [intOf]; omega⟩
    · obtain rfl : k = L.st.length := by omega
      go_wp2_with fail
      clear c_in hin
      rename Hid (Out _ _ _ _ _ _ _ _ _ _ _ _ _) => HO1
      rename Hid (Below _ _ _) => HB1
      go_loopw [6] (fun q wr => ∃ k : Nat, k ≤ L.rg.length ∧ q = .int .i64 k ∧ ∃ u2, Hid (Out w.heap.size ins L wr L.st.length k 0 0 u1 u2 (.slice none 0 0) (.slice none 0 0) []) ∧ Hid (Below w.heap.size w wr)) (fun q _ => L.rg.length - (intOf q).toNat)
      case atStart => exact ⟨0, by omega, rfl, _, HO1.out, HB1.out⟩
      case round =>
        clear HO1 HB1
        obtain ⟨k, hk, rfl, u2, hO, hB⟩ := hrel
        have hin := hO.out.inb
        rw [Hins.out] at hin
        have c_in := fun i => hin.cell i
        have k0 : (0 : Int) ≤ (k : Int) := by omega
        by_cases hlt : k < L.rg.length
        · obtain ⟨x, hx⟩ : ∃ x, L.rg[k]? = some x := ⟨_, List.getElem?_eq_getElem hlt⟩
          have HR := Lib.hid (HL.out.rg.kept hB.out)
          obtain ⟨b, off, rfl, hb, _⟩ := HR.out.at rfl hx
          have Hx := Lib.hid hx
          have k1 : (k : Int) < (L.rg.length : Int) := by omega
          have hout := hO.out.out
          have hszB := hB.out.size
          clear hx
          go_wp2_with fail
          apply wp_region_by 9 [(Fact.eq _), (Fact.eq _), (Fact.eq _), (Fact.eq _), (Fact.eq _), (Fact.eq _), (Fact.eq _), (Fact.eq _), (Fact.sl 1 68 #[iv x.x1, iv x.y1, iv x.x2, iv x.y2, iv x.b, iv x.t])]
          case hm => kernel_rfl
          case hB => kernel_rfl
          case hA => (intro vs; simp only [List.take_succ_cons, List.take_zero, putAll, if_true, Act.put, List.setIfInBounds_toArray, List.set_cons_zero, List.set_cons_succ]; exact rfl)
          case hstep =>
            intro vs
            refine And.intro (fun w hw hd => ?_) ?_
            · refine ite_yes rfl ?_
              simp only [Gives]
              go_simp
              exact ⟨Below.refl _ _, rfl, fun h => by cases h⟩
            refine And.intro (fun w hw hd => ?_) ?_
            · have d0 := hd 0 (by decide) rfl
              change vs 0 = _ at d0
              refine ite_yes rfl ?_
              have c_hin := fun i => (hin.kept hw).cell i
              have c_hout := fun i => (hout.kept hw).cell i
              simp only [Gives]
              go_simp
              exact ⟨Below.refl _ _, rfl, fun h => by cases h⟩
            refine And.intro (fun w hw hd => ?_) ?_
            · refine ite_yes rfl ?_
              simp only [Gives]
              go_simp
              exact ⟨Below.refl _ _, rfl, fun h => by cases h⟩
            refine And.intro (fun w hw hd => ?_) ?_
            · have d2 := hd 2 (by decide) rfl
              change vs 2 = _ at d2
              refine ite_yes rfl ?_
              have c_hin := fun i => (hin.kept hw).cell i
              have c_hout := fun i => (hout.kept hw).cell i
              simp only [Gives]
              go_simp
              exact ⟨Below.refl _ _, rfl, fun h => by cases h⟩
            refine And.intro (fun w hw hd => ?_) ?_
            · refine ite_yes rfl ?_
              simp only [Gives]
              go_simp
              exact ⟨Below.refl _ _, rfl, fun h => by cases h⟩
            refine And.intro (fun w hw hd => ?_) ?_
            · have d3 := hd 3 (by decide) rfl
              change vs 3 = _ at d3
              have d4 := hd 4 (by decide) rfl
              change vs 4 = _ at d4
              refine ite_yes rfl ?_
              simp only [Gives]
              go_simp
              exact ⟨Below.refl _ _, rfl, fun h => by cases h⟩
            refine And.intro (fun w hw hd => ?_) ?_
            · have d5 := hd 5 (by decide) rfl
              change vs 5 = _ at d5
              refine ite_yes rfl ?_
              have c_hin := fun i => (hin.kept hw).cell i
              have c_hout := fun i => (hout.kept hw).cell i
              have q0 : w.cell? ⟨b, off + k * 6, none⟩ = some (.int .i64 x.x1) := (HR.out.kept hw).cellAt Hx.out (j := 0) rfl
              have q1 : w.cell? ⟨b, off + k * 6 + 1, none⟩ = some (.int .i64 x.y1) := (HR.out.kept hw).cellAt Hx.out (j := 1) rfl
              have q2 : w.cell? ⟨b, off + k * 6 + 2, none⟩ = some (.int .i64 x.x2) := (HR.out.kept hw).cellAt Hx.out (j := 2) rfl
              have q3 : w.cell? ⟨b, off + k * 6 + 3, none⟩ = some (.int .i64 x.y2) := (HR.out.kept hw).cellAt Hx.out (j := 3) rfl
              have q4 : w.cell? ⟨b, off + k * 6 + 4, none⟩ = some (.int .i64 x.b) := (HR.out.kept hw).cellAt Hx.out (j := 4) rfl
              have q5 : w.cell? ⟨b, off + k * 6 + 5, none⟩ = some (.int .i64 x.t) := (HR.out.kept hw).cellAt Hx.out (j := 5) rfl
              simp only [Gives]
              go_simp
              exact ⟨Below.refl _ _, rfl, fun h => by cases h⟩
            refine And.intro (fun w hw hd => ?_) ?_
            · have d6 := hd 6 (by decide) rfl
              change vs 6 = _ at d6
              refine ite_yes rfl ?_
              simp only [Gives]
              go_simp
              refine (Lwall_any x _).mono ?_
              rintro e w1 ⟨rfl, hb⟩
              exact ⟨_, rfl, hb, rfl, fun h => by cases h⟩
            refine And.intro (fun w hw hd => ?_) ?_
            · have d7 := hd 7 (by decide) rfl
              change vs 7 = _ at d7
              refine ite_yes rfl ?_
              simp only [Gives]
              go_simp
              exact ⟨(Below.refl _ _).alloc (Nat.le_refl _) _, ⟨_, rfl, Box.new rfl⟩, fun h => by cases h⟩
            exact trivial
          intro vs wt hw hd hne hlo
          have d0 := hd 0 (by decide)
          change vs 0 = _ at d0
          have d1 := hd 1 (by decide)
          change vs 1 = _ at d1
          have d2 := hd 2 (by decide)
          change vs 2 = _ at d2
          have d3 := hd 3 (by decide)
          change vs 3 = _ at d3
          have d4 := hd 4 (by decide)
          change vs 4 = _ at d4
          have d5 := hd 5 (by decide)
          change vs 5 = _ at d5
          have d6 := hd 6 (by decide)
          change vs 6 = _ at d6
          have d7 := hd 7 (by decide)
          change vs 7 = _ at d7
          have d8 := hd 8 (by decide)
          obtain ⟨n8, d8, N8⟩ := d8
          simp only [d0, d1, d2, d3, d4, d5, d6, d7, List.drop_succ_cons, List.drop_zero]
          have hin := hin.kept hw
          have hout := hout.kept hw
          have c_hin := fun i => hin.cell i
          have f_hin := fun i => hin.free i
          have c_hout := fun i => hout.cell i
          have f_hout := fun i => hout.free i
          clear hd hne hlo d0 d1 d2 d3 d4 d5 d6 d7
          simp only [d8]
          have HOU := Lib.hid (hO.out.kept hw)
          go_wp2_with (at_builtin; refine wpList_append_own_at _ rfl _ _ 33 rfl w.heap.size 68 i2 (.agg #[iv 0, iv 0, iv 0, iv 0, iv 0, iv 0]) 6 48 Try.underlying33 hi2 hz20 hz21 hz22 rfl (by decide) _ _ _ rfl HOU.out.o2 ⟨n8, 0, none⟩ 1 1 [iv x.x1, iv x.y1, iv x.x2, iv x.y2, iv x.b, iv x.t] rfl rfl (box_newsM N8) (by simp [Value.oneCell']) (by unfold maxLen; omega) (by omega) (by have := hw.size; omega) ?_; intro v' w2 hown' hgrow _ hat; obtain ⟨g', cap', rfl⟩ := ownsRow_succ hown'; have hbo := HOU.out.out.grown hgrow (box_not_own HOU.out.out (by decide) HOU.out.o2); have hc1 := fun i => hbo.cell i; have hf1 := fun i => hbo.free i)
          exact ⟨⟨k + 1, by omega, by go_num, _, HOU.out.put2 Hx.out hgrow hown', up_put ((up_later hB.out hw).grown hgrow (by have := hw.size; omega) fun g e => (HOU.out.o2.lt g e).1) (p := ⟨w.heap.size + 1 + 1, 1, none⟩) (by simp; omega) _⟩, by simp [intOf]; omega⟩
        · obtain rfl : k = L.rg.length := by omega
          go_wp2_with fail
          clear c_in hin
          rename Hid (Out _ _ _ _ _ _ _ _ _ _ _ _ _) => HO1
          rename Hid (Below _ _ _) => HB1
          go_loopw [7] (fun q wr => ∃ k : Nat, k ≤ c.length ∧ q = .int .i64 k ∧ ∃ u3 c', Hid (Out w.heap.size ins L wr L.st.length L.rg.length k 0 u1 u2 u3 (.slice none 0 0) c') ∧ Hid (Below w.heap.size w wr)) (fun q _ => c.length - (intOf q).toNat)
          case atStart => exact ⟨0, by omega, rfl, _, _, HO1.out, HB1.out⟩
          case round =>
            clear HO1 HB1
            obtain ⟨k, hk, rfl, u3, c', hO, hB⟩ := hrel
            have hin := hO.out.inb
            rw [Hins.out] at hin
            have c_in := fun i => hin.cell i
            have k0 : (0 : Int) ≤ (k : Int) := by omega
            by_cases hlt : k < c.length
            · obtain ⟨x, hx⟩ : ∃ x, c[k]? = some x := ⟨_, List.getElem?_eq_getElem hlt⟩
              have HR := Lib.hid (HL.out.cs.kept hB.out)
              have HE := Lib.hid ((HL.out.each x (List.mem_of_getElem? hx)).kept hB.out)
              have hLk : L.cs[k]? = some x.2 := by rw [← HL.out.eq]; simp [hx]
              have HLk := Lib.hid hLk
              obtain ⟨b, off, rfl, hb, _⟩ := HR.out.at rfl hx
              have Hx := Lib.hid hx
              have k1 : (k : Int) < (c.length : Int) := by omega
              have hout := hO.out.out
              have hszB := hB.out.size
              clear hx hLk
              go_wp2_with fail
              apply wp_region_by 9 [(Fact.eq _), (Fact.eq _), (Fact.eq _), (Fact.eq _), (Fact.eq _), (Fact.eq _), (Fact.eq _), (Fact.own w.heap.size 70 8 x.2.length (x.2.flatMap Cl.cells)), (Fact.so 71 w.heap.size 70 8 x.2.length (x.2.flatMap Cl.cells))]
              case hm => kernel_rfl
              case hB => kernel_rfl
              case hA => (intro vs; simp only [List.take_succ_cons, List.take_zero, putAll, if_true, Act.put, List.setIfInBounds_toArray, List.set_cons_zero, List.set_cons_succ]; exact rfl)
              case hstep =>
                intro vs
                refine And.intro (fun w hw hd => ?_) ?_
                · refine ite_yes rfl ?_
                  simp only [Gives]
                  go_simp
                  exact ⟨Below.refl _ _, rfl, fun h => by cases h⟩
                refine And.intro (fun w hw hd => ?_) ?_
                · have d0 := hd 0 (by decide) rfl
                  change vs 0 = _ at d0
                  refine ite_yes rfl ?_
                  have c_hin := fun i => (hin.kept hw).cell i
                  have c_hout := fun i => (hout.kept hw).cell i
                  simp only [Gives]
                  go_simp
                  exact ⟨Below.refl _ _, rfl, fun h => by cases h⟩
                refine And.intro (fun w hw hd => ?_) ?_
                · refine ite_yes rfl ?_
                  simp only [Gives]
                  go_simp
                  exact ⟨Below.refl _ _, rfl, fun h => by cases h⟩
                refine And.intro (fun w hw hd => ?_) ?_
                · have d2 := hd 2 (by decide) rfl
                  change vs 2 = _ at d2
                  refine ite_yes rfl ?_
                  have c_hin := fun i => (hin.kept hw).cell i
                  have c_hout := fun i => (hout.kept hw).cell i
                  simp only [Gives]
                  go_simp
                  exact ⟨Below.refl _ _, rfl, fun h => by cases h⟩
                refine And.intro (fun w hw hd => ?_) ?_
                · refine ite_yes rfl ?_
                  simp only [Gives]
                  go_simp
                  exact ⟨Below.refl _ _, rfl, fun h => by cases h⟩
                refine And.intro (fun w hw hd => ?_) ?_
                · have d3 := hd 3 (by decide) rfl
                  change vs 3 = _ at d3
                  have d4 := hd 4 (by decide) rfl
                  change vs 4 = _ at d4
                  refine ite_yes rfl ?_
                  simp only [Gives]
                  go_simp
                  exact ⟨Below.refl _ _, rfl, fun h => by cases h⟩
                refine And.intro (fun w hw hd => ?_) ?_
                · have d5 := hd 5 (by decide) rfl
                  change vs 5 = _ at d5
                  refine ite_yes rfl ?_
                  have c_hin := fun i => (hin.kept hw).cell i
                  have c_hout := fun i => (hout.kept hw).cell i
                  have q0 : w.cell? ⟨b, off + k, none⟩ = some x.1 := by simpa using (HR.out.kept hw).cellAt Hx.out (j := 0) rfl
                  simp only [Gives]
                  go_simp
                  exact ⟨Below.refl _ _, rfl, fun h => by cases h⟩
                refine And.intro (fun w hw hd => ?_) ?_
                · have d6 := hd 6 (by decide) rfl
                  change vs 6 = _ at d6
                  refine ite_yes rfl ?_
                  simp only [Gives]
                  go_simp
                  refine (Lclouds_any x.1 x.2 w (HE.out.kept hw)).mono ?_
                  rintro e w1 ⟨v, rfl, ho, hb⟩
                  obtain ⟨Av, mv, pv, ev⟩ := own_form ho
                  exact ⟨v, rfl, hb, ⟨Av, mv, pv, ev, own_mono ho (Nat.le_trans hszB hw.size)⟩, fun h => by cases h⟩
                refine And.intro (fun w hw hd => ?_) ?_
                · have d7 := hd 7 (by decide) rfl
                  obtain ⟨A7, m7, p7, e7, d7⟩ := d7
                  refine ite_yes rfl ?_
                  simp only [Gives]
                  simp only [e7]
                  go_simp
                  exact ⟨(Below.refl _ _).alloc (Nat.le_refl _) _, ⟨_, _, rfl, Box.new rfl, by rw [← e7]; exact own_below d7 (up_alloc up0 _)⟩, fun h => by cases h⟩
                exact trivial
              intro vs wt hw hd hne hlo
              have d0 := hd 0 (by decide)
              change vs 0 = _ at d0
              have d1 := hd 1 (by decide)
              change vs 1 = _ at d1
              have d2 := hd 2 (by decide)
              change vs 2 = _ at d2
              have d3 := hd 3 (by decide)
              change vs 3 = _ at d3
              have d4 := hd 4 (by decide)
              change vs 4 = _ at d4
              have d5 := hd 5 (by decide)
              change vs 5 = _ at d5
              have d6 := hd 6 (by decide)
              change vs 6 = _ at d6
              have d7 := hd 7 (by decide)
              obtain ⟨A7, m7, p7, e7, d7⟩ := d7
              have d8 := hd 8 (by decide)
              obtain ⟨n8, z8, d8, N8, Z8⟩ := d8
              simp only [d0, d1, d2, d3, d4, d5, d6, List.drop_succ_cons, List.drop_zero]
              have hin := hin.kept hw
              have hout := hout.kept hw
              have c_hin := fun i => hin.cell i
              have f_hin := fun i => hin.free i
              have c_hout := fun i => hout.cell i
              have f_hout := fun i => hout.free i
              clear hd hne hlo d0 d1 d2 d3 d4 d5 d6
              simp only [d8]
              have HOU := Lib.hid (hO.out.kept hw)
              go_wp2_with (at_builtin; refine wpList_append_own_at _ rfl _ _ 34 rfl w.heap.size 71 i3 (.slice none 0 0) 1 24 Try.underlying34 hi3 hz30 hz31 hz32 rfl (by decide) _ _ _ rfl HOU.out.o3 ⟨n8, 0, none⟩ 1 1 [z8] rfl rfl (box_newsM N8) (by obtain ⟨Az, mz, pz, ez⟩ := own_form Z8; simp [ez, Value.oneCell']) (by unfold maxLen; omega) (by omega) (by have := hw.size; omega) ?_; intro v' w2 hown' hgrow _ hat; obtain ⟨g', cap', rfl⟩ := ownsRow_succ hown'; have hbo := HOU.out.out.grown hgrow (box_not_own HOU.out.out (by decide) HOU.out.o3); have hc1 := fun i => hbo.cell i; have hf1 := fun i => hbo.free i)
              exact ⟨⟨k + 1, by omega, by go_num, _, _, HOU.out.put3 HLk.out Z8 hgrow hown', up_put ((up_later hB.out hw).grown hgrow (by have := hw.size; omega) fun g e => (HOU.out.o3.lt g e).1) (p := ⟨w.heap.size + 1 + 1, 2, none⟩) (by simp; omega) _⟩, by simp [intOf]; omega⟩
            · obtain rfl : k = c.length := by omega
              go_wp2_with fail
              clear c_in hin
              rename Hid (Out _ _ _ _ _ _ _ _ _ _ _ _ _) => HO1
              rename Hid (Below _ _ _) => HB1
              go_loopw [8] (fun q wr => ∃ k : Nat, k ≤ L.sn.length ∧ q = .int .i64 k ∧ ∃ u4, Hid (Out w.heap.size ins L wr L.st.length L.rg.length c.length k u1 u2 u3 u4 c') ∧ Hid (Below w.heap.size w wr)) (fun q _ => L.sn.length - (intOf q).toNat)
              case atStart => exact ⟨0, by omega, rfl, _, HO1.out, HB1.out⟩
              case round =>
                clear HO1 HB1
                obtain ⟨k, hk, rfl, u4, hO, hB⟩ := hrel
                have hin := hO.out.inb
                rw [Hins.out] at hin
                have c_in := fun i => hin.cell i
                have k0 : (0 : Int) ≤ (k : Int) := by omega
                have hout := hO.out.out
                by_cases hlt : k < L.sn.length
                · obtain ⟨x, hx⟩ : ∃ x, L.sn[k]? = some x := ⟨_, List.getElem?_eq_getElem hlt⟩
                  have HR := Lib.hid (HL.out.sn.kept hB.out)
                  obtain ⟨b, off, rfl, hb, _⟩ := HR.out.at rfl hx
                  have Hx := Lib.hid hx
                  have k1 : (k : Int) < (L.sn.length : Int) := by omega
                  have hszB := hB.out.size
                  clear hx
                  go_wp2_with fail
                  apply wp_region_by 22 [(Fact.eq _), (Fact.eq _), (Fact.eq _), (Fact.eq _), (Fact.eq _), (Fact.eq _), (Fact.eq _), (Fact.eq _), (Fact.eq _), (Fact.eq _), (Fact.eq _), (Fact.eq _), (Fact.eq _), (Fact.eq _), (Fact.eq _), (Fact.eq _), (Fact.eq _), (Fact.eq _), (Fact.eq _), (Fact.eq _), (Fact.eq _), (Fact.sl 1 91 #[iv x.e, iv x.n, iv x.u])]
                  case hm => kernel_rfl
                  case hB => kernel_rfl
                  case hA => (intro vs; simp only [List.take_succ_cons, List.take_zero, putAll, if_true, Act.put, List.setIfInBounds_toArray, List.set_cons_zero, List.set_cons_succ]; exact rfl)
                  case hstep =>
                    intro vs
                    refine And.intro (fun w hw hd => ?_) ?_
                    · refine ite_yes rfl ?_
                      simp only [Gives]
                      go_simp
                      exact ⟨Below.refl _ _, rfl, fun h => by cases h⟩
                    refine And.intro (fun w hw hd => ?_) ?_
                    · have d0 := hd 0 (by decide) rfl
                      change vs 0 = _ at d0
                      refine ite_yes rfl ?_
                      have c_hin := fun i => (hin.kept hw).cell i
                      have c_hout := fun i => (hout.kept hw).cell i
                      simp only [Gives]
                      go_simp
                      exact ⟨Below.refl _ _, rfl, fun h => by cases h⟩
                    refine And.intro (fun w hw hd => ?_) ?_
                    · refine ite_yes rfl ?_
                      simp only [Gives]
                      go_simp
                      exact ⟨Below.refl _ _, rfl, fun h => by cases h⟩
                    refine And.intro (fun w hw hd => ?_) ?_
                    · have d2 := hd 2 (by decide) rfl
                      change vs 2 = _ at d2
                      refine ite_yes rfl ?_
                      have c_hin := fun i => (hin.kept hw).cell i
                      have c_hout := fun i => (hout.kept hw).cell i
                      simp only [Gives]
                      go_simp
                      exact ⟨Below.refl _ _, rfl, fun h => by cases h⟩
                    refine And.intro (fun w hw hd => ?_) ?_
                    · refine ite_yes rfl ?_
                      simp only [Gives]
                      go_simp
                      exact ⟨Below.refl _ _, rfl, fun h => by cases h⟩
                    refine And.intro (fun w hw hd => ?_) ?_
                    · have d3 := hd 3 (by decide) rfl
                      change vs 3 = _ at d3
                      have d4 := hd 4 (by decide) rfl
                      change vs 4 = _ at d4
                      refine ite_yes rfl ?_
                      simp only [Gives]
                      go_simp
                      exact ⟨Below.refl _ _, rfl, fun h => by cases h⟩
                    refine And.intro (fun w hw hd => ?_) ?_
                    · have d5 := hd 5 (by decide) rfl
                      change vs 5 = _ at d5
                      refine ite_yes rfl ?_
                      simp only [Gives]
                      go_simp
                      exact ⟨Below.refl _ _, rfl, fun h => by cases h⟩
                    refine And.intro (fun w hw hd => ?_) ?_
                    · have d6 := hd 6 (by decide) rfl
                      change vs 6 = _ at d6
                      refine ite_yes rfl ?_
                      have c_hin := fun i => (hin.kept hw).cell i
                      have c_hout := fun i => (hout.kept hw).cell i
                      have q0 : w.cell? ⟨b, off + k * 3, none⟩ = some (.int .i64 x.e) := (HR.out.kept hw).cellAt Hx.out (j := 0) rfl
                      have q1 : w.cell? ⟨b, off + k * 3 + 1, none⟩ = some (.int .i64 x.n) := (HR.out.kept hw).cellAt Hx.out (j := 1) rfl
                      have q2 : w.cell? ⟨b, off + k * 3 + 2, none⟩ = some (.int .i64 x.u) := (HR.out.kept hw).cellAt Hx.out (j := 2) rfl
                      simp only [Gives]
                      go_simp
                      exact ⟨Below.refl _ _, rfl, fun h => by cases h⟩
                    refine And.intro (fun w hw hd => ?_) ?_
                    · refine ite_yes rfl ?_
                      simp only [Gives]
                      go_simp
                      exact ⟨Below.refl _ _, rfl, fun h => by cases h⟩
                    refine And.intro (fun w hw hd => ?_) ?_
                    · have d8 := hd 8 (by decide) rfl
                      change vs 8 = _ at d8
                      refine ite_yes rfl ?_
                      have c_hin := fun i => (hin.kept hw).cell i
                      have c_hout := fun i => (hout.kept hw).cell i
                      simp only [Gives]
                      go_simp
                      exact ⟨Below.refl _ _, rfl, fun h => by cases h⟩
                    refine And.intro (fun w hw hd => ?_) ?_
                    · refine ite_yes rfl ?_
                      simp only [Gives]
                      go_simp
                      exact ⟨Below.refl _ _, rfl, fun h => by cases h⟩
                    refine And.intro (fun w hw hd => ?_) ?_
                    · have d9 := hd 9 (by decide) rfl
                      change vs 9 = _ at d9
                      have d10 := hd 10 (by decide) rfl
                      change vs 10 = _ at d10
                      refine ite_yes rfl ?_
                      simp only [Gives]
                      go_simp
                      exact ⟨Below.refl _ _, rfl, fun h => by cases h⟩
                    refine And.intro (fun w hw hd => ?_) ?_
                    · have d11 := hd 11 (by decide) rfl
                      change vs 11 = _ at d11
                      refine ite_yes rfl ?_
                      simp only [Gives]
                      go_simp
                      exact ⟨Below.refl _ _, rfl, fun h => by cases h⟩
                    refine And.intro (fun w hw hd => ?_) ?_
                    · have d12 := hd 12 (by decide) rfl
                      change vs 12 = _ at d12
                      refine ite_yes rfl ?_
                      have c_hin := fun i => (hin.kept hw).cell i
                      have c_hout := fun i => (hout.kept hw).cell i
                      have q0 : w.cell? ⟨b, off + k * 3, none⟩ = some (.int .i64 x.e) := (HR.out.kept hw).cellAt Hx.out (j := 0) rfl
                      have q1 : w.cell? ⟨b, off + k * 3 + 1, none⟩ = some (.int .i64 x.n) := (HR.out.kept hw).cellAt Hx.out (j := 1) rfl
                      have q2 : w.cell? ⟨b, off + k * 3 + 2, none⟩ = some (.int .i64 x.u) := (HR.out.kept hw).cellAt Hx.out (j := 2) rfl
                      simp only [Gives]
                      go_simp
                      exact ⟨Below.refl _ _, rfl, fun h => by cases h⟩
                    refine And.intro (fun w hw hd => ?_) ?_
                    · refine ite_yes rfl ?_
                      simp only [Gives]
                      go_simp
                      exact ⟨Below.refl _ _, rfl, fun h => by cases h⟩
                    refine And.intro (fun w hw hd => ?_) ?_
                    · have d14 := hd 14 (by decide) rfl
                      change vs 14 = _ at d14
                      refine ite_yes rfl ?_
                      have c_hin := fun i => (hin.kept hw).cell i
                      have c_hout := fun i => (hout.kept hw).cell i
                      simp only [Gives]
                      go_simp
                      exact ⟨Below.refl _ _, rfl, fun h => by cases h⟩
                    refine And.intro (fun w hw hd => ?_) ?_
                    · refine ite_yes rfl ?_
                      simp only [Gives]
                      go_simp
                      exact ⟨Below.refl _ _, rfl, fun h => by cases h⟩
                    refine And.intro (fun w hw hd => ?_) ?_
                    · have d15 := hd 15 (by decide) rfl
                      change vs 15 = _ at d15
                      have d16 := hd 16 (by decide) rfl
                      change vs 16 = _ at d16
                      refine ite_yes rfl ?_
                      simp only [Gives]
                      go_simp
                      exact ⟨Below.refl _ _, rfl, fun h => by cases h⟩
                    refine And.intro (fun w hw hd => ?_) ?_
                    · have d17 := hd 17 (by decide) rfl
                      change vs 17 = _ at d17
                      refine ite_yes rfl ?_
                      simp only [Gives]
                      go_simp
                      exact ⟨Below.refl _ _, rfl, fun h => by cases h⟩
                    refine And.intro (fun w hw hd => ?_) ?_
                    · have d18 := hd 18 (by decide) rfl
                      change vs 18 = _ at d18
                      refine ite_yes rfl ?_
                      have c_hin := fun i => (hin.kept hw).cell i
                      have c_hout := fun i => (hout.kept hw).cell i
                      have q0 : w.cell? ⟨b, off + k * 3, none⟩ = some (.int .i64 x.e) := (HR.out.kept hw).cellAt Hx.out (j := 0) rfl
                      have q1 : w.cell? ⟨b, off + k * 3 + 1, none⟩ = some (.int .i64 x.n) := (HR.out.kept hw).cellAt Hx.out (j := 1) rfl
                      have q2 : w.cell? ⟨b, off + k * 3 + 2, none⟩ = some (.int .i64 x.u) := (HR.out.kept hw).cellAt Hx.out (j := 2) rfl
                      simp only [Gives]
                      go_simp
                      exact ⟨Below.refl _ _, rfl, fun h => by cases h⟩
                    refine And.intro (fun w hw hd => ?_) ?_
                    · have d7 := hd 7 (by decide) rfl
                      change vs 7 = _ at d7
                      have d13 := hd 13 (by decide) rfl
                      change vs 13 = _ at d13
                      have d19 := hd 19 (by decide) rfl
                      change vs 19 = _ at d19
                      refine ite_yes rfl ?_
                      simp only [Gives]
                      go_simp
                      exact ⟨Below.refl _ _, rfl, fun h => by cases h⟩
                    refine And.intro (fun w hw hd => ?_) ?_
                    · have d20 := hd 20 (by decide) rfl
                      change vs 20 = _ at d20
                      refine ite_yes rfl ?_
                      simp only [Gives]
                      go_simp
                      exact ⟨(Below.refl _ _).alloc (Nat.le_refl _) _, ⟨_, rfl, Box.new rfl⟩, fun h => by cases h⟩
                    exact trivial
                  intro vs wt hw hd hne hlo
                  have d0 := hd 0 (by decide)
                  change vs 0 = _ at d0
                  have d1 := hd 1 (by decide)
                  change vs 1 = _ at d1
                  have d2 := hd 2 (by decide)
                  change vs 2 = _ at d2
                  have d3 := hd 3 (by decide)
                  change vs 3 = _ at d3
                  have d4 := hd 4 (by decide)
                  change vs 4 = _ at d4
                  have d5 := hd 5 (by decide)
                  change vs 5 = _ at d5
                  have d6 := hd 6 (by decide)
                  change vs 6 = _ at d6
                  have d7 := hd 7 (by decide)
                  change vs 7 = _ at d7
                  have d8 := hd 8 (by decide)
                  change vs 8 = _ at d8
                  have d9 := hd 9 (by decide)
                  change vs 9 = _ at d9
                  have d10 := hd 10 (by decide)
                  change vs 10 = _ at d10
                  have d11 := hd 11 (by decide)
                  change vs 11 = _ at d11
                  have d12 := hd 12 (by decide)
                  change vs 12 = _ at d12
                  have d13 := hd 13 (by decide)
                  change vs 13 = _ at d13
                  have d14 := hd 14 (by decide)
                  change vs 14 = _ at d14
                  have d15 := hd 15 (by decide)
                  change vs 15 = _ at d15
                  have d16 := hd 16 (by decide)
                  change vs 16 = _ at d16
                  have d17 := hd 17 (by decide)
                  change vs 17 = _ at d17
                  have d18 := hd 18 (by decide)
                  change vs 18 = _ at d18
                  have d19 := hd 19 (by decide)
                  change vs 19 = _ at d19
                  have d20 := hd 20 (by decide)
                  change vs 20 = _ at d20
                  have d21 := hd 21 (by decide)
                  obtain ⟨n8, d8, N8⟩ := d21
                  simp only [d0, d1, d2, d3, d4, d5, d6, d7, d8, d9, d10, d11, d12, d13, d14, d15, d16, d17, d18, d19, d20, List.drop_succ_cons, List.drop_zero]
                  have hin := hin.kept hw
                  have hout := hout.kept hw
                  have c_hin := fun i => hin.cell i
                  have f_hin := fun i => hin.free i
                  have c_hout := fun i => hout.cell i
                  have f_hout := fun i => hout.free i
                  clear hd hne hlo d0 d1 d2 d3 d4 d5 d6 d7 d8 d9 d10 d11 d12 d13 d14 d15 d16 d17 d18 d19 d20
                  simp only [d8]
                  have HOU := Lib.hid (hO.out.kept hw)
                  go_wp2_with (at_builtin; refine wpList_append_own_at _ rfl _ _ 35 rfl w.heap.size 91 i4 (.agg #[iv 0, iv 0, iv 0]) 3 24 Try.underlying35 hi4 hz40 hz41 hz42 rfl (by decide) _ _ _ rfl HOU.out.o4 ⟨n8, 0, none⟩ 1 1 [iv x.e, iv x.n, iv x.u] rfl rfl (box_newsM N8) (by simp [Value.oneCell']) (by unfold maxLen; omega) (by omega) (by have := hw.size; omega) ?_; intro v' w2 hown' hgrow _ hat; obtain ⟨g', cap', rfl⟩ := ownsRow_succ hown'; have hbo := HOU.out.out.grown hgrow (box_not_own HOU.out.out (by decide) HOU.out.o4); have hc1 := fun i => hbo.cell i; have hf1 := fun i => hbo.free i)
                  exact ⟨⟨k + 1, by omega, by go_num, _, HOU.out.put4 Hx.out hgrow hown', up_put ((up_later hB.out hw).grown hgrow (by have := hw.size; omega) fun g e => (HOU.out.o4.lt g e).1) (p := ⟨w.heap.size + 1 + 1, 3, none⟩) (by simp; omega) _⟩, by simp [intOf]; omega⟩
                · obtain rfl : k = L.sn.length := by omega
                  have c_out := fun i => hout.cell i
                  have hres := hO.out.res
                  have c_res := fun i => hres.cell i
                  have f_res := fun i => hres.free i
                  have hls := hres.lt
                  have hO4 := hO.out
                  rw [Hcl.out] at hO4
                  have hF := hO4.four
                  obtain ⟨F1, m1, p1, rfl⟩ := own_form hF.o1
                  obtain ⟨F2, m2, p2, rfl⟩ := own_form hF.o2
                  obtain ⟨F3, m3, p3, rfl⟩ := own_form hF.o3
                  obtain ⟨F4, m4, p4, rfl⟩ := own_form hF.o4
                  have HF := Lib.hid hF
                  clear hF hO4
                  go_wp2_with fail
                  have R0 := hres.put 0 (.slice F1 m1 p1)
                  have R1 := R0.put 1 (.slice F2 m2 p2)
                  have R2 := R1.put 2 (.slice F3 m3 p3)
                  have N := Box.put4 (u0 := .slice F1 m1 p1) (u1 := .slice F2 m2 p2) (u2 := .slice F3 m3 p3) (u3 := .slice F4 m4 p4) hres
                  have G := (((HF.out.set hres (i := 0) (u := .slice F1 m1 p1)).set R0 (i := 1) (u := .slice F2 m2 p2)).set R1 (i := 2) (u := .slice F3 m3 p3)).set R2 (i := 3) (u := .slice F4 m4 p4)
                  have hcs : ∀ x ∈ L.cs, x.length ≤ 1000 := fun x hx => by
                    rw [← HL.out.eq] at hx
                    obtain ⟨y, hy, rfl⟩ := List.mem_map.1 hx
                    exact (HL.out.each y hy).form.1
                  refine bodyPost_ret (v := .agg #[.slice F1 m1 p1, .slice F2 m2 p2, .slice F3 m3 p3, .slice F4 m4 p4]) (by
                    have cN := fun i => N.cell i
                    simp [results, Try.results18, go_sem, cN]) rfl ⟨_, _, _, _, c', rfl, G.land (by omega) (by omega) (by have := Hcl.out; omega) (by omega) hcs, ?_⟩
                  exact up_put (up_put (up_put (up_put hB.out (p := ⟨w.heap.size + 1, 0, none⟩) (by simp) _) (p := ⟨w.heap.size + 1, 1, none⟩) (by simp) _) (p := ⟨w.heap.size + 1, 2, none⟩) (by simp) _) (p := ⟨w.heap.size + 1, 3, none⟩) (by simp) _

end Go.Proofs.Ytojbdmdjepgpjaa
