/-
  WALKS of Stick and Reach. Conditions: lists have at most 1000 elements.
-/
import Derived.Test.YtojbdmdjepgpjaaHd
import Derived.Test.YtojbdmdjepgpjaaOq
namespace Go.Proofs.Ytojbdmdjepgpjaa
open Go.RowKit

def stickE (L : Ld) (a b h : Int) : Int × Int := if openI L 0 h [a, b] ≠ 0 then (0, openI L 0 h [a, b]) else if stuckI L a b h = [] then (0, 7) else ((stuckI L a b h).headD 0, 0)
def reachE (L : Ld) (a k h : Int) : List Int × Int := if openI L k h [a] ≠ 0 then ([], openI L k h [a]) else (uptoF (fun t => (t : Int) != a && freeB L a t k h) L.st.length, 0)


set_option maxRecDepth 100000 in
set_option maxHeartbeats 1000000 in
theorem Stick_any (v1 v2 v3 v4 : Value) (L : Ld) (c : List (Value × List Cl)) (a b hour : Int) (w : World) (hL : LandAt w v1 v2 v3 v4 L c) :
    Calls Try.prog 28 #[.agg #[v1, v2, v3, v4], .int .i64 a, .int .i64 b, .int .i64 hour] w fun e w' =>
      e = .returned (.tuple #[.int .i64 (stickE L a b hour).1, .int .i64 (stickE L a b hour).2]) ∧ Below w.heap.size w w' := by
  have HL := Lib.hid hL
  obtain ⟨hn1, A1, cap1, rfl, _, _⟩ := hL.st.form
  obtain ⟨hn2, A2, cap2, rfl, _, _⟩ := hL.rg.form
  obtain ⟨hn3, A3, cap3, rfl, _, _⟩ := hL.cs.form
  obtain ⟨hn4, A4, cap4, rfl, _, _⟩ := hL.sn.form
  clear hL
  by_cases ho : openI L 0 hour [a, b] = 0
  · obtain ⟨i, j, k, h, rfl, rfl, hk0, rfl⟩ := nats_of ho
    clear hk0
    obtain ⟨hH, _⟩ := here_of (k := 0) ho
    have hfin : stickE L i j h = if stuckI L i j h = [] then (0, 7) else ((stuckI L i j h).headD 0, 0) := by unfold stickE; rw [if_neg (by simp [ho])]
    have Hfin := Lib.hid hfin
    have Ho := Lib.hid ho
    have HH := Lib.hid hH
    clear hfin ho hH
    go_enter Try.func28, Try.ntmps28
    go_wp2_with fail
    refine (open2_any _ _ _ _ L c 0 h _ i j _ ((HL.out.kept (up_alloc up0 _)).kept (up_alloc up0 _)) (Box.new (by simp))).mono ?_
    rintro e w1 ⟨hb1, (⟨hne, rfl⟩ | ⟨h0, gs, gm, rfl, hS, _, hgm⟩)⟩
    · exact absurd Ho.out hne
    · have hB := up_later (up_alloc (up_alloc up0 _) _) hb1
      have hgm' : w.heap.size ≤ gm := by simp at hgm; omega
      have Hc := Lib.hid (stuck_any (fun _ => False) gs gm i j h _ _ _ _ L c w1 hS.no HH.out (fun g hf => hf.elim) (fun hf => hf))
      clear h0 hS hb1 hgm
      go_wp2_with fail
      refine Hc.out.mono ?_
      rintro e w2 ⟨u, rfl, hR, _, hg⟩
      have HR := Lib.hid hR
      have HG := Lib.hid hg
      obtain ⟨_, uA, ucap, hu, _, _⟩ := hR.form
      clear hR hg
      obtain ⟨n, hn⟩ : ∃ n, n = (stuckI L i j h).length := ⟨_, rfl⟩
      rw [← hn] at hu
      subst hu
      by_cases hn0 : n = 0
      · have hri : stuckI L i j h = [] := List.eq_nil_of_length_eq_zero (by omega)
        have Hri := Lib.hid hri
        clear hri hn
        subst hn0
        go_wp2_with fail
        go_ret2
        exact ⟨by rw [Hfin.out, if_pos Hri.out]; rfl, below_grown hB HG.out hgm'⟩
      · have hnp : ((n : Int) == 0) = false := by simp; omega
        have hri : stuckI L i j h ≠ [] := fun e => hn0 (by rw [hn, e]; rfl)
        have Hri := Lib.hid hri
        clear hri hn hn0
        go_wp2_with fail
        refine (smallest_any _ (stuckI L i j h) w2 HR.out (uptoF_head _ _)).mono ?_
        rintro e w9 ⟨rfl, rfl⟩
        go_wp2_with fail
        go_ret2
        exact ⟨by rw [Hfin.out, if_neg Hri.out, List.headD_eq_head?_getD]; rfl, below_grown hB HG.out hgm'⟩
  · have hfin : stickE L a b hour = (0, openI L 0 hour [a, b]) := by unfold stickE; rw [if_pos ho]
    have hbo : (openI L 0 hour [a, b] != 0) = true := by simpa using ho
    have Ho := Lib.hid ho
    have Hfin := Lib.hid hfin
    clear ho hfin
    go_enter Try.func28, Try.ntmps28
    go_wp2_with fail
    refine (open2_any _ _ _ _ L c 0 hour _ a b _ ((HL.out.kept (up_alloc up0 _)).kept (up_alloc up0 _)) (Box.new (by simp))).mono ?_
    rintro e w1 ⟨hb1, (⟨hne, rfl⟩ | ⟨h0, gs, gm, rfl, hS, _, _⟩)⟩
    · clear hne
      go_wp2
      go_ret2
      exact ⟨by rw [Hfin.out]; rfl, up_later (up_alloc (up_alloc up0 _) _) hb1⟩
    · exact absurd h0 Ho.out

set_option maxRecDepth 100000 in
set_option maxHeartbeats 1000000 in
theorem Reach_any (v1 v2 v3 v4 : Value) (L : Ld) (c : List (Value × List Cl)) (a kase hour : Int) (w : World) (hL : LandAt w v1 v2 v3 v4 L c) :
    Calls Try.prog 30 #[.agg #[v1, v2, v3, v4], .int .i64 a, .int .i64 kase, .int .i64 hour] w fun e w' =>
      ∃ u, e = .returned (.tuple #[u, .int .i64 (reachE L a kase hour).2]) ∧ RowsAt w' u 1 (fun n => [iv n]) (reachE L a kase hour).1 ∧ Below w.heap.size w w' := by
  obtain ⟨i0, hi, hz0, hz1, hz2⟩ := info_parts int_info
  have HL := Lib.hid hL
  obtain ⟨hn1, A1, cap1, rfl, _, _⟩ := hL.st.form
  obtain ⟨hn2, A2, cap2, rfl, _, _⟩ := hL.rg.form
  obtain ⟨hn3, A3, cap3, rfl, _, _⟩ := hL.cs.form
  obtain ⟨hn4, A4, cap4, rfl, _, _⟩ := hL.sn.form
  clear hL
  by_cases ho : openI L kase hour [a] = 0
  · obtain ⟨he, ⟨hk0, hk1⟩, ⟨hh0, hh1⟩, hst⟩ := open_ok ho
    obtain ⟨ha0, ha1⟩ := hst a (by simp)
    obtain ⟨i, rfl⟩ := Int.eq_ofNat_of_zero_le ha0
    obtain ⟨k, rfl⟩ := Int.eq_ofNat_of_zero_le hk0
    obtain ⟨h, rfl⟩ := Int.eq_ofNat_of_zero_le hh0
    have hH : ∀ t, t < L.st.length → Here L i t h := fun t ht => ⟨land_ok he, by omega, ht, by omega⟩
    have hk : k < L.cs.length := by omega
    have hfin : reachE L i k h = (uptoF (fun t => (t : Int) != i && freeB L i t k h) L.st.length, 0) := by unfold reachE; rw [if_neg (by simp [ho])]
    have Hfin := Lib.hid hfin
    have Ho := Lib.hid ho
    have HH := Lib.hid hH
    have Hk := Lib.hid hk
    clear hfin ho hH hk hst he ha0 ha1 hk0 hk1 hh0 hh1
    go_enter Try.func30, Try.ntmps30
    go_wp2_with fail
    refine (open1_any _ _ _ _ L c k h _ i _ ((HL.out.kept (up_alloc up0 _)).kept (up_alloc up0 _)) (Box.new (by simp))).mono ?_
    rintro e w1 ⟨hb1, (⟨hne, rfl⟩ | ⟨h0, gs, gm, rfl, hS, _, hgm⟩)⟩
    · exact absurd Ho.out hne
    · have hB := up_later (up_alloc (up_alloc up0 _) _) hb1
      have hgm' : w.heap.size ≤ gm := by simp at hgm; omega
      have HS := Lib.hid hS.no
      have HB := Lib.hid hB
      have c_hX := fun i => hS.box.cell i
      have hgl : gm < w1.heap.size := hS.no.lt
      clear h0 hS hb1 hgm hB
      go_wp2_with fail
      clear c_hX
      go_loopw [12, 32] (fun v q wr => ∃ t : Nat, t ≤ L.st.length ∧ q = .int .i64 t ∧ wr.ownsRow w1.heap.size 3 1 v (uptoF (fun t => (t : Int) != i && freeB L i t k h) t).length ((uptoF (fun t => (t : Int) != i && freeB L i t k h) t).map iv) ∧
        Hid (SiteN (andOwn (fun _ => False) v) wr gs gm (.slice A1 L.st.length cap1) (.slice A2 L.rg.length cap2) (.slice A3 c.length cap3) (.slice A4 L.sn.length cap4) L c) ∧ Hid (w1.grownBy wr (some gm))) (fun _ q _ => L.st.length - (intOf q).toNat)
      case atStart => exact ⟨0, by omega, rfl, World.ownsRow_nil _ _ _ _, site_nil HS.out, grown0⟩
      case round =>
        obtain ⟨t, ht, rfl, hown, hSn, hg⟩ := hrel
        have hlen := uptoF_length (p := fun t => (t : Int) != i && freeB L i t k h) (k := t)
        have HO := Lib.hid hown
        by_cases hlt : t < L.st.length
        · by_cases hti : t = i
          · have hti' : ((t : Int) != i) = false := by simp [hti]
            have Hti := Lib.hid hti'
            clear hown hti
            go_wp2_with fail
            refine ⟨⟨t + 1, by omega, by go_num, ?_, hSn.out, hg.out⟩, ?_⟩
            · rw [uptoF_no (by simp [Hti.out])]
              exact HO.out
            · simp [intOf]; omega
          · have hti' : ((t : Int) != i) = true := by simp; omega
            have Hti := Lib.hid hti'
            have hcall := free_any (andOwn (fun _ => False) _) gs gm i t k h _ _ _ _ L c wr hSn.out (HH.out t hlt) Hk.out (andOwn_lt (B := 0) (fun g hf => hf.elim) (by omega) hown)
            cases hf : freeB L i t k h with
            | false =>
              rw [hf] at hcall
              have Hc := Lib.hid hcall
              have Hf := Lib.hid hf
              clear hcall hf hown hti
              go_wp2_with fail
              refine Hc.out.mono ?_
              rintro e w2 ⟨rfl, hS1, hg1⟩
              go_wp2_with fail
              refine ⟨⟨t + 1, by omega, by go_num, ?_, hS1, grown_trans hg.out hg1⟩, ?_⟩
              · rw [uptoF_no (by simp [Hf.out])]
                exact own_still HO.out hgl hg1
              · simp [intOf]; omega
            | true =>
              rw [hf] at hcall
              have Hc := Lib.hid hcall
              have Hf := Lib.hid hf
              clear hcall hf hown hti
              go_wp2_with fail
              refine Hc.out.mono ?_
              rintro e w2 ⟨rfl, hS1, hg1⟩
              have hgw := grown_trans hg.out hg1
              have hown := own_still HO.out hgl hg1
              go_wp2_with (at_builtin; refine wpList_append_own_at _ rfl _ _ 41 rfl w1.heap.size 3 i0 (.int .i64 0) 1 8 Try.underlying41 hi hz0 hz1 hz2 rfl (by decide) _ _ _ rfl (hown.alloc _) ⟨w2.heap.size, 0, none⟩ 1 1 [.int .i64 t] rfl rfl (cell_one_new _ _ _) (by simp [Value.oneCell']) (by unfold maxLen; omega) (by omega) (by have := hgw.size; simp; omega) ?_; intro v' w3 hown' hgrow _ hat)
              obtain ⟨hS2, hg2⟩ := site_append hS1 HS.out hgw (fun h => h) hown hgrow hat
              refine ⟨⟨t + 1, by omega, by go_num, ?_, hS2, hg2⟩, ?_⟩
              · rw [uptoF_yes (by simp [Hf.out, Hti.out])]
                simpa using hown'
              · simp [intOf]; omega
        · obtain rfl : t = L.st.length := by omega
          clear hown
          go_wp2_with fail
          go_ret2
          exact ⟨_, by rw [Hfin.out]; rfl, by rw [Hfin.out]; exact RowsAt.of_own HO.out (Nat.le_trans hlen hn1), below_grown HB.out hg.out hgm'⟩
  · have hfin : reachE L a kase hour = ([], openI L kase hour [a]) := by unfold reachE; rw [if_pos ho]
    have hbo : (openI L kase hour [a] != 0) = true := by simpa using ho
    have Ho := Lib.hid ho
    have Hfin := Lib.hid hfin
    clear ho hfin
    go_enter Try.func30, Try.ntmps30
    go_wp2_with fail
    refine (open1_any _ _ _ _ L c kase hour _ a _ ((HL.out.kept (up_alloc up0 _)).kept (up_alloc up0 _)) (Box.new (by simp))).mono ?_
    rintro e w1 ⟨hb1, (⟨hne, rfl⟩ | ⟨h0, gs, gm, rfl, hS, _, _⟩)⟩
    · clear hne
      go_wp2
      go_ret2
      exact ⟨.slice none 0 0, by rw [Hfin.out]; rfl, by rw [Hfin.out]; exact RowsAt.nil _, up_later (up_alloc (up_alloc up0 _) _) hb1⟩
    · exact absurd h0 Ho.out

end Go.Proofs.Ytojbdmdjepgpjaa
