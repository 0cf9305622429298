/-
  WALKS of both tests of '(*site).hours', and of Why and Walls. Conditions: lists have at most 1000 elements.
-/
import Derived.Test.YtojbdmdjepgpjaaHo
namespace Go.Proofs.Ytojbdmdjepgpjaa
open Go.RowKit

set_option maxRecDepth 100000 in
set_option maxHeartbeats 1000000 in
theorem Hours1_any (N : Nat → Prop) (gs gm i j k h b1 b2 b3 b4 : Nat) (v1 v2 v3 v4 : Value) (L : Ld) (c : List (Value × List Cl)) (w : World) (hS : SiteN N w gs gm v1 v2 v3 v4 L c) (hH : Here L i j h) (hk : k < L.cs.length) (hN : ∀ g, N g → g < w.heap.size)
    (h1 : Boxed w b1 92 (.pointer (some ⟨gs, 0, none⟩))) (h2 : Boxed w b2 3 (.int .i64 i)) (h3 : Boxed w b3 3 (.int .i64 j)) (h4 : Boxed w b4 3 (.int .i64 k)) :
    Calls Try.prog 55 #[.int .i64 h, .pointer (some ⟨b1, 0, none⟩), .pointer (some ⟨b2, 0, none⟩), .pointer (some ⟨b3, 0, none⟩), .pointer (some ⟨b4, 0, none⟩)] w fun e w' =>
      e = .returned (.bool (freeB L i j k h)) ∧ SiteN N w' gs gm v1 v2 v3 v4 L c ∧ w.grownBy w' (some gm) := by
  have Hc := Lib.hid (free_any N gs gm i j k h v1 v2 v3 v4 L c w hS hH hk hN)
  have c1 := h1.cell
  have c2 := h2.cell
  have c3 := h3.cell
  have c4 := h4.cell
  clear hS hH hk hN h1 h2 h3 h4
  go_enter Try.func55, Try.ntmps55
  go_wp2_with fail
  refine Hc.out.mono ?_
  rintro e w1 ⟨rfl, hS1, hg⟩
  clear c1 c2 c3 c4
  go_wp2_with fail
  go_ret
  exact ⟨rfl, hS1, hg⟩

theorem len0 (l : List Int) : ((l.length : Int) == 0) = l.isEmpty := by
  cases l with
  | nil => rfl
  | cons x r => simp; omega
set_option maxRecDepth 100000 in
set_option maxHeartbeats 1000000 in
theorem Always1_any (N : Nat → Prop) (gs gm i j h b1 b2 b3 : Nat) (v1 v2 v3 v4 : Value) (L : Ld) (c : List (Value × List Cl)) (w : World) (hS : SiteN N w gs gm v1 v2 v3 v4 L c) (hH : Here L i j h) (hN : ∀ g, N g → g < w.heap.size) (hgm : ¬ N gm)
    (h1 : Boxed w b1 92 (.pointer (some ⟨gs, 0, none⟩))) (h2 : Boxed w b2 3 (.int .i64 i)) (h3 : Boxed w b3 3 (.int .i64 j)) :
    Calls Try.prog 57 #[.int .i64 h, .pointer (some ⟨b1, 0, none⟩), .pointer (some ⟨b2, 0, none⟩), .pointer (some ⟨b3, 0, none⟩)] w fun e w' =>
      e = .returned (.bool (stuckI L i j h).isEmpty) ∧ SiteN N w' gs gm v1 v2 v3 v4 L c ∧ w.grownBy w' (some gm) := by
  have Hc := Lib.hid (stuck_any N gs gm i j h v1 v2 v3 v4 L c w hS hH hN hgm)
  have c1 := h1.cell
  have c2 := h2.cell
  have c3 := h3.cell
  clear hS hH hN hgm h1 h2 h3
  go_enter Try.func57, Try.ntmps57
  go_wp2_with fail
  refine Hc.out.mono ?_
  rintro e w1 ⟨v, rfl, hR, hS1, hg⟩
  obtain ⟨_, A, cap, hv, _, _⟩ := hR.form
  subst hv
  have HR := Lib.hid hR
  clear c1 c2 c3 hR
  go_wp2_with fail
  go_ret
  refine ⟨?_, hS1, hg⟩
  rw [← len0]
  rfl

def whyE (L : Ld) (a b k h : Int) : Int × Int × Int := if openI L k h [a, b] ≠ 0 then (0, 0, openI L k h [a, b]) else ((whyI L a b k h).1, (whyI L a b k h).2, 0)

theorem below_grown {w w1 w2 : World} {gm : Nat} (hb : Below w.heap.size w w1) (hg : w1.grownBy w2 (some gm)) (hgm : w.heap.size ≤ gm) : Below w.heap.size w w2 := hb.grown hg hb.size fun k e => by cases e; exact hgm
theorem here_of {L : Ld} {i j k h : Nat} (ho : openI L k h [(i : Int), (j : Int)] = 0) : Here L i j h ∧ k < L.cs.length := by
  obtain ⟨he, ⟨_, hk⟩, ⟨_, hh⟩, hst⟩ := open_ok ho
  have h1 := (hst i (by simp)).2
  have h2 := (hst j (by simp)).2
  exact ⟨⟨land_ok he, by omega, by omega, by omega⟩, by omega⟩
theorem nats_of {L : Ld} {a b k h : Int} (ho : openI L k h [a, b] = 0) : ∃ i j k' h' : Nat, a = i ∧ b = j ∧ k = k' ∧ h = h' := by
  obtain ⟨_, ⟨hk, _⟩, ⟨hh, _⟩, hst⟩ := open_ok ho
  exact ⟨a.toNat, b.toNat, k.toNat, h.toNat, by have := (hst a (by simp)).1; omega, by have := (hst b (by simp)).1; omega, by omega, by omega⟩

set_option maxRecDepth 100000 in
set_option maxHeartbeats 1000000 in
theorem Why_any (v1 v2 v3 v4 : Value) (L : Ld) (c : List (Value × List Cl)) (a b kase hour : Int) (w : World) (hL : LandAt w v1 v2 v3 v4 L c) :
    Calls Try.prog 19 #[.agg #[v1, v2, v3, v4], .int .i64 a, .int .i64 b, .int .i64 kase, .int .i64 hour] w fun e w' =>
      e = .returned (.tuple #[.int .u8 (whyE L a b kase hour).1, .int .i64 (whyE L a b kase hour).2.1, .int .i64 (whyE L a b kase hour).2.2]) ∧ Below w.heap.size w w' := by
  have HL := Lib.hid hL
  obtain ⟨hn1, A1, cap1, rfl, _, _⟩ := hL.st.form
  obtain ⟨hn2, A2, cap2, rfl, _, _⟩ := hL.rg.form
  obtain ⟨hn3, A3, cap3, rfl, _, _⟩ := hL.cs.form
  obtain ⟨hn4, A4, cap4, rfl, _, _⟩ := hL.sn.form
  clear hL
  by_cases ho : openI L kase hour [a, b] = 0
  · obtain ⟨i, j, k, h, rfl, rfl, rfl, rfl⟩ := nats_of ho
    obtain ⟨hH, hk⟩ := here_of ho
    have hfin : whyE L i j k h = ((whyI L i j k h).1, (whyI L i j k h).2, 0) := by unfold whyE; rw [if_neg (by simp [ho])]
    have Hfin := Lib.hid hfin
    have Ho := Lib.hid ho
    have HH := Lib.hid hH
    have Hk := Lib.hid hk
    clear hfin ho hH hk
    go_enter Try.func19, Try.ntmps19
    go_wp2_with fail
    refine (open2_any _ _ _ _ L c k h _ i j _ ((HL.out.kept (up_alloc up0 _)).kept (up_alloc up0 _)) (Box.new (by simp))).mono ?_
    rintro e w1 ⟨hb1, (⟨hne, rfl⟩ | ⟨h0, gs, gm, rfl, hS, _, hgm⟩)⟩
    · exact absurd Ho.out hne
    · have hB := up_later (up_alloc (up_alloc up0 _) _) hb1
      have hgm' : w.heap.size ≤ gm := by simp at hgm; omega
      have Hc := Lib.hid (why_any (fun _ => False) gs gm i j k h _ _ _ _ L c w1 hS.no HH.out Hk.out (fun g hf => hf.elim))
      clear h0 hS hb1 hgm
      go_wp2_with fail
      refine Hc.out.mono ?_
      rintro e w2 ⟨rfl, _, hg⟩
      go_wp2_with fail
      go_ret3
      exact ⟨by rw [Hfin.out]; rfl, below_grown hB hg hgm'⟩
  · have hfin : whyE L a b kase hour = (0, 0, openI L kase hour [a, b]) := by unfold whyE; rw [if_pos ho]
    have hbo : (openI L kase hour [a, b] != 0) = true := by simpa using ho
    have Ho := Lib.hid ho
    have Hfin := Lib.hid hfin
    clear ho hfin
    go_enter Try.func19, Try.ntmps19
    go_wp2_with fail
    refine (open2_any _ _ _ _ L c kase hour _ a b _ ((HL.out.kept (up_alloc up0 _)).kept (up_alloc up0 _)) (Box.new (by simp))).mono ?_
    rintro e w1 ⟨hb1, (⟨hne, rfl⟩ | ⟨h0, gs, gm, rfl, hS, _, _⟩)⟩
    · clear hne
      go_wp2
      go_ret3
      exact ⟨by rw [Hfin.out]; rfl, up_later (up_alloc (up_alloc up0 _) _) hb1⟩
    · exact absurd h0 Ho.out

/-- The numbers of all walls that block, and the error. -/
def wallsE (L : Ld) (a b k h : Int) : List Int × List Int × Int := if openI L k h [a, b] ≠ 0 then ([], [], openI L k h [a, b]) else (ridgesI L a b, cloudsI L a b k h, 0)

set_option maxRecDepth 100000 in
set_option maxHeartbeats 1000000 in
theorem Walls_any (v1 v2 v3 v4 : Value) (L : Ld) (c : List (Value × List Cl)) (a b kase hour : Int) (w : World) (hL : LandAt w v1 v2 v3 v4 L c) :
    Calls Try.prog 20 #[.agg #[v1, v2, v3, v4], .int .i64 a, .int .i64 b, .int .i64 kase, .int .i64 hour] w fun e w' =>
      ∃ u1 u2, e = .returned (.tuple #[u1, u2, .int .i64 (wallsE L a b kase hour).2.2]) ∧ RowsAt w' u1 1 (fun n => [iv n]) (wallsE L a b kase hour).1 ∧ RowsAt w' u2 1 (fun n => [iv n]) (wallsE L a b kase hour).2.1 ∧ Below w.heap.size w w' := by
  have HL := Lib.hid hL
  obtain ⟨hn1, A1, cap1, rfl, _, _⟩ := hL.st.form
  obtain ⟨hn2, A2, cap2, rfl, _, _⟩ := hL.rg.form
  obtain ⟨hn3, A3, cap3, rfl, _, _⟩ := hL.cs.form
  obtain ⟨hn4, A4, cap4, rfl, _, _⟩ := hL.sn.form
  clear hL
  by_cases ho : openI L kase hour [a, b] = 0
  · obtain ⟨i, j, k, h, rfl, rfl, rfl, rfl⟩ := nats_of ho
    obtain ⟨hH, hk⟩ := here_of ho
    have hfin : wallsE L i j k h = (ridgesI L i j, cloudsI L i j k h, 0) := by unfold wallsE; rw [if_neg (by simp [ho])]
    have Hfin := Lib.hid hfin
    have Ho := Lib.hid ho
    have HH := Lib.hid hH
    have Hk := Lib.hid hk
    clear hfin ho hH hk
    go_enter Try.func20, Try.ntmps20
    go_wp2_with fail
    refine (open2_any _ _ _ _ L c k h _ i j _ ((HL.out.kept (up_alloc up0 _)).kept (up_alloc up0 _)) (Box.new (by simp))).mono ?_
    rintro e w1 ⟨hb1, (⟨hne, rfl⟩ | ⟨h0, gs, gm, rfl, hS, _, hgm⟩)⟩
    · exact absurd Ho.out hne
    · have hB := up_later (up_alloc (up_alloc up0 _) _) hb1
      have hgm' : w.heap.size ≤ gm := by simp at hgm; omega
      obtain ⟨s, hs⟩ : ∃ x, L.st[i]? = some x := ⟨_, List.getElem?_eq_getElem HH.out.i⟩
      obtain ⟨t, ht⟩ : ∃ x, L.st[j]? = some x := ⟨_, List.getElem?_eq_getElem HH.out.j⟩
      obtain ⟨sv, zs, hcz, hLz⟩ := sites_cs hS.land.eq Hk.out
      have hcl : cloudsI L i j k h = whichB (cloudB s t h) zs := by unfold cloudsI stAt; simp [hs, ht, hLz]
      have Hs := Lib.hid hs
      have Ht := Lib.hid ht
      have Hcz := Lib.hid hcz
      have Hcl := Lib.hid hcl
      have Hc := Lib.hid (siteRidges_any gs gm i j s t _ _ _ _ L c [] w1 hS HH.out.ok hs ht (fun _ => False) (fun g hf => hf.elim) (fun x hx => by cases hx))
      clear h0 hS hb1 hgm hs ht hcz hcl hLz
      go_wp2_with fail
      refine Hc.out.mono ?_
      rintro e w2 ⟨u1, m', rfl, hr1, hS2, _, hg⟩
      have Hr1 := Lib.hid hr1
      have Hg := Lib.hid hg
      have Hc2 := Lib.hid (clouds_any gs gm i j k h s t _ _ _ _ sv L c zs m' w2 hS2 HH.out.ok Hs.out Ht.out Hcz.out)
      clear hr1 hS2 hg
      go_wp2_with fail
      refine Hc2.out.mono ?_
      rintro e w3 ⟨u2, rfl, hr2, hb3⟩
      have Hr2 := Lib.hid hr2
      clear hr2
      go_wp2_with fail
      go_ret3
      refine ⟨u1, u2, by rw [Hfin.out]; rfl, by rw [Hfin.out]; exact Hr1.out.kept hb3, by rw [Hfin.out]; show RowsAt _ _ _ _ (cloudsI L i j k h); rw [Hcl.out]; exact Hr2.out, up_later (below_grown hB Hg.out hgm') hb3⟩
  · have hfin : wallsE L a b kase hour = ([], [], openI L kase hour [a, b]) := by unfold wallsE; rw [if_pos ho]
    have hbo : (openI L kase hour [a, b] != 0) = true := by simpa using ho
    have Ho := Lib.hid ho
    have Hfin := Lib.hid hfin
    clear ho hfin
    go_enter Try.func20, Try.ntmps20
    go_wp2_with fail
    refine (open2_any _ _ _ _ L c kase hour _ a b _ ((HL.out.kept (up_alloc up0 _)).kept (up_alloc up0 _)) (Box.new (by simp))).mono ?_
    rintro e w1 ⟨hb1, (⟨hne, rfl⟩ | ⟨h0, gs, gm, rfl, hS, _, _⟩)⟩
    · clear hne
      go_wp2
      go_ret3
      exact ⟨.slice none 0 0, .slice none 0 0, by rw [Hfin.out]; rfl, by rw [Hfin.out]; exact RowsAt.nil _, by rw [Hfin.out]; exact RowsAt.nil _, up_later (up_alloc (up_alloc up0 _) _) hb1⟩
    · exact absurd h0 Ho.out

end Go.Proofs.Ytojbdmdjepgpjaa
