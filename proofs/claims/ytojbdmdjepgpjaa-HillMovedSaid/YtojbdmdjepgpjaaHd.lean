/-
  WALKS of Hours and Always. Conditions: lists have at most 1000 elements.
-/
import Derived.Test.YtojbdmdjepgpjaaHc
namespace Go.Proofs.Ytojbdmdjepgpjaa
open Go.RowKit

def hoursE (L : Ld) (a b k : Int) : List Int × Int := if openI L k 0 [a, b] ≠ 0 then ([], openI L k 0 [a, b]) else (uptoF (fun h => freeB L a b k h) L.sn.length, 0)
def alwaysE (L : Ld) (a b : Int) : List Int × Int := if openI L 0 0 [a, b] ≠ 0 then ([], openI L 0 0 [a, b]) else (uptoF (fun h => (stuckI L a b h).isEmpty) L.sn.length, 0)

theorem here_more {L : Ld} {i j h h' : Nat} (hH : Here L i j h) (hh : h' < L.sn.length) : Here L i j h' := ⟨hH.ok, hH.i, hH.j, hh⟩

set_option maxRecDepth 100000 in
set_option maxHeartbeats 1000000 in
theorem Hours_any (v1 v2 v3 v4 : Value) (L : Ld) (c : List (Value × List Cl)) (a b kase : Int) (w : World) (hL : LandAt w v1 v2 v3 v4 L c) :
    Calls Try.prog 26 #[.agg #[v1, v2, v3, v4], .int .i64 a, .int .i64 b, .int .i64 kase] w fun e w' =>
      ∃ u, e = .returned (.tuple #[u, .int .i64 (hoursE L a b kase).2]) ∧ RowsAt w' u 1 (fun n => [iv n]) (hoursE L a b kase).1 ∧ Below w.heap.size w w' := by
  have HL := Lib.hid hL
  obtain ⟨hn1, A1, cap1, rfl, _, _⟩ := hL.st.form
  obtain ⟨hn2, A2, cap2, rfl, _, _⟩ := hL.rg.form
  obtain ⟨hn3, A3, cap3, rfl, _, _⟩ := hL.cs.form
  obtain ⟨hn4, A4, cap4, rfl, _, _⟩ := hL.sn.form
  clear hL
  by_cases ho : openI L kase 0 [a, b] = 0
  · obtain ⟨i, j, k, h, rfl, rfl, rfl, h0⟩ := nats_of ho
    obtain rfl : h = 0 := by omega
    clear h0
    obtain ⟨hH, hk⟩ := here_of ho
    have hfin : hoursE L i j k = (uptoF (fun h => freeB L i j k h) L.sn.length, 0) := by unfold hoursE; rw [if_neg (by simp [ho])]
    have Hfin := Lib.hid hfin
    have Ho := Lib.hid ho
    have HH := Lib.hid hH
    have Hk := Lib.hid hk
    clear hfin ho hH hk
    go_enter Try.func26, Try.ntmps26
    go_wp2_with fail
    refine (open2_any _ _ _ _ L c k 0 _ i j _ (((((HL.out.kept (up_alloc up0 _)).kept (up_alloc up0 _)).kept (up_alloc up0 _)).kept (up_alloc up0 _)).kept (up_alloc up0 _)) (Box.new (by simp))).mono ?_
    rintro e w1 ⟨hb1, (⟨hne, rfl⟩ | ⟨h0, gs, gm, rfl, hS, _, hgm⟩)⟩
    · exact absurd Ho.out hne
    · have hB := up_later (up_alloc (up_alloc (up_alloc (up_alloc (up_alloc up0 _) _) _) _) _) hb1
      have hgm' : w.heap.size ≤ gm := by simp at hgm; omega
      have X2 := Box.later hb1 ((((Box.new (g := w.heap.size + 1) (w := w.alloc (.cells #[.slice A1 L.st.length cap1, .slice A2 L.rg.length cap2, .slice A3 c.length cap3, .slice A4 L.sn.length cap4] 37)) (t := 3) (cs := #[iv i]) (by simp)).alloc _).alloc _).alloc _)
      have X3 := Box.later hb1 (((Box.new (g := w.heap.size + 1 + 1) (w := (w.alloc (.cells #[.slice A1 L.st.length cap1, .slice A2 L.rg.length cap2, .slice A3 c.length cap3, .slice A4 L.sn.length cap4] 37)).alloc (.cells #[iv i] 3)) (t := 3) (cs := #[iv j]) (by simp)).alloc _).alloc _)
      have X4 := Box.later hb1 ((Box.new (g := w.heap.size + 1 + 1 + 1) (w := ((w.alloc (.cells #[.slice A1 L.st.length cap1, .slice A2 L.rg.length cap2, .slice A3 c.length cap3, .slice A4 L.sn.length cap4] 37)).alloc (.cells #[iv i] 3)).alloc (.cells #[iv j] 3)) (t := 3) (cs := #[iv k]) (by simp)).alloc _)
      have HX2 := Lib.hid X2
      have HX3 := Lib.hid X3
      have HX4 := Lib.hid X4
      have HS := Lib.hid hS
      clear h0 hS hb1 hgm X2 X3 X4
      go_wp2_with fail
      have hS2 := HS.out.no.kept (up_alloc up0 (.cells #[.pointer (some ⟨gs, 0, none⟩)] 92))
      have Y1 := Box.new (w := w1) (t := 92) (cs := #[.pointer (some ⟨gs, 0, none⟩)]) rfl
      have Y2 := HX2.out.alloc (.cells #[.pointer (some ⟨gs, 0, none⟩)] 92)
      have Y3 := HX3.out.alloc (.cells #[.pointer (some ⟨gs, 0, none⟩)] 92)
      have Y4 := HX4.out.alloc (.cells #[.pointer (some ⟨gs, 0, none⟩)] 92)
      refine (hours_h _ _ _ _ (fun h => freeB L i j k h) (fun _ => False) gs gm _ _ _ _ L c _ (fun N' h w' hh hg hS' hN' hn => Hours1_any N' gs gm i j k h _ _ _ _ _ _ _ _ L c w' hS' (here_more HH.out hh) Hk.out hN' (Y1.stillN hS2 hg) (Y2.stillN hS2 hg) (Y3.stillN hS2 hg) (Y4.stillN hS2 hg)) hS2 (fun h => h) (fun g h => h.elim)).mono ?_
      rintro e w2 ⟨u, rfl, hR, _, hg⟩
      clear Y1 Y2 Y3 Y4 hS2
      have HR := Lib.hid hR
      have HG := Lib.hid hg
      clear hR hg
      go_wp2_with fail
      go_ret2
      exact ⟨u, by rw [Hfin.out]; rfl, by rw [Hfin.out]; exact HR.out, below_grown (up_later hB (up_alloc up0 _)) HG.out hgm'⟩
  · have hfin : hoursE L a b kase = ([], openI L kase 0 [a, b]) := by unfold hoursE; rw [if_pos ho]
    have hbo : (openI L kase 0 [a, b] != 0) = true := by simpa using ho
    have Ho := Lib.hid ho
    have Hfin := Lib.hid hfin
    clear ho hfin
    go_enter Try.func26, Try.ntmps26
    go_wp2_with fail
    refine (open2_any _ _ _ _ L c kase 0 _ a b _ (((((HL.out.kept (up_alloc up0 _)).kept (up_alloc up0 _)).kept (up_alloc up0 _)).kept (up_alloc up0 _)).kept (up_alloc up0 _)) (Box.new (by simp))).mono ?_
    rintro e w1 ⟨hb1, (⟨hne, rfl⟩ | ⟨h0, gs, gm, rfl, hS, _, _⟩)⟩
    · clear hne
      go_wp2
      go_ret2
      exact ⟨.slice none 0 0, by rw [Hfin.out]; rfl, by rw [Hfin.out]; exact RowsAt.nil _, up_later (up_alloc (up_alloc (up_alloc (up_alloc (up_alloc up0 _) _) _) _) _) (up_later hb1 (up_alloc up0 _))⟩
    · exact absurd h0 Ho.out

set_option maxRecDepth 100000 in
set_option maxHeartbeats 1000000 in
theorem Always_any (v1 v2 v3 v4 : Value) (L : Ld) (c : List (Value × List Cl)) (a b : Int) (w : World) (hL : LandAt w v1 v2 v3 v4 L c) :
    Calls Try.prog 27 #[.agg #[v1, v2, v3, v4], .int .i64 a, .int .i64 b] w fun e w' =>
      ∃ u, e = .returned (.tuple #[u, .int .i64 (alwaysE L a b).2]) ∧ RowsAt w' u 1 (fun n => [iv n]) (alwaysE L a b).1 ∧ Below w.heap.size w w' := by
  have HL := Lib.hid hL
  obtain ⟨hn1, A1, cap1, rfl, _, _⟩ := hL.st.form
  obtain ⟨hn2, A2, cap2, rfl, _, _⟩ := hL.rg.form
  obtain ⟨hn3, A3, cap3, rfl, _, _⟩ := hL.cs.form
  obtain ⟨hn4, A4, cap4, rfl, _, _⟩ := hL.sn.form
  clear hL
  by_cases ho : openI L 0 0 [a, b] = 0
  · obtain ⟨i, j, k, h, rfl, rfl, hk0, h0⟩ := nats_of ho
    clear hk0 h0
    obtain ⟨hH, hk⟩ := here_of (k := 0) (h := 0) (i := i) (j := j) ho
    have hfin : alwaysE L i j = (uptoF (fun h => (stuckI L i j h).isEmpty) L.sn.length, 0) := by unfold alwaysE; rw [if_neg (by simp [ho])]
    have Hfin := Lib.hid hfin
    have Ho := Lib.hid ho
    have HH := Lib.hid hH
    clear hfin ho hH hk
    go_enter Try.func27, Try.ntmps27
    go_wp2_with fail
    refine (open2_any _ _ _ _ L c 0 0 _ i j _ ((((HL.out.kept (up_alloc up0 _)).kept (up_alloc up0 _)).kept (up_alloc up0 _)).kept (up_alloc up0 _)) (Box.new (by simp))).mono ?_
    rintro e w1 ⟨hb1, (⟨hne, rfl⟩ | ⟨h0, gs, gm, rfl, hS, _, hgm⟩)⟩
    · exact absurd Ho.out hne
    · have hB := up_later (up_alloc (up_alloc (up_alloc (up_alloc up0 _) _) _) _) hb1
      have hgm' : w.heap.size ≤ gm := by simp at hgm; omega
      have X2 := Box.later hb1 (((Box.new (g := w.heap.size + 1) (w := w.alloc (.cells #[.slice A1 L.st.length cap1, .slice A2 L.rg.length cap2, .slice A3 c.length cap3, .slice A4 L.sn.length cap4] 37)) (t := 3) (cs := #[iv i]) (by simp)).alloc _).alloc _)
      have X3 := Box.later hb1 ((Box.new (g := w.heap.size + 1 + 1) (w := (w.alloc (.cells #[.slice A1 L.st.length cap1, .slice A2 L.rg.length cap2, .slice A3 c.length cap3, .slice A4 L.sn.length cap4] 37)).alloc (.cells #[iv i] 3)) (t := 3) (cs := #[iv j]) (by simp)).alloc _)
      have HX2 := Lib.hid X2
      have HX3 := Lib.hid X3
      have HS := Lib.hid hS
      clear h0 hS hb1 hgm X2 X3
      go_wp2_with fail
      have hS2 := HS.out.no.kept (up_alloc up0 (.cells #[.pointer (some ⟨gs, 0, none⟩)] 92))
      have Y1 := Box.new (w := w1) (t := 92) (cs := #[.pointer (some ⟨gs, 0, none⟩)]) rfl
      have Y2 := HX2.out.alloc (.cells #[.pointer (some ⟨gs, 0, none⟩)] 92)
      have Y3 := HX3.out.alloc (.cells #[.pointer (some ⟨gs, 0, none⟩)] 92)
      refine (hours_a _ _ _ (fun h => (stuckI L i j h).isEmpty) (fun _ => False) gs gm _ _ _ _ L c _ (fun N' h w' hh hg hS' hN' hn => Always1_any N' gs gm i j h _ _ _ _ _ _ _ L c w' hS' (here_more HH.out hh) hN' hn (Y1.stillN hS2 hg) (Y2.stillN hS2 hg) (Y3.stillN hS2 hg)) hS2 (fun h => h) (fun g h => h.elim)).mono ?_
      rintro e w2 ⟨u, rfl, hR, _, hg⟩
      clear Y1 Y2 Y3 hS2
      have HR := Lib.hid hR
      have HG := Lib.hid hg
      clear hR hg
      go_wp2_with fail
      go_ret2
      exact ⟨u, by rw [Hfin.out]; rfl, by rw [Hfin.out]; exact HR.out, below_grown (up_later hB (up_alloc up0 _)) HG.out hgm'⟩
  · have hfin : alwaysE L a b = ([], openI L 0 0 [a, b]) := by unfold alwaysE; rw [if_pos ho]
    have hbo : (openI L 0 0 [a, b] != 0) = true := by simpa using ho
    have Ho := Lib.hid ho
    have Hfin := Lib.hid hfin
    clear ho hfin
    go_enter Try.func27, Try.ntmps27
    go_wp2_with fail
    refine (open2_any _ _ _ _ L c 0 0 _ a b _ ((((HL.out.kept (up_alloc up0 _)).kept (up_alloc up0 _)).kept (up_alloc up0 _)).kept (up_alloc up0 _)) (Box.new (by simp))).mono ?_
    rintro e w1 ⟨hb1, (⟨hne, rfl⟩ | ⟨h0, gs, gm, rfl, hS, _, _⟩)⟩
    · clear hne
      go_wp2
      go_ret2
      exact ⟨.slice none 0 0, by rw [Hfin.out]; rfl, by rw [Hfin.out]; exact RowsAt.nil _, up_later (up_alloc (up_alloc (up_alloc (up_alloc up0 _) _) _) _) (up_later hb1 (up_alloc up0 _))⟩
    · exact absurd h0 Ho.out

end Go.Proofs.Ytojbdmdjepgpjaa
