/-
  WALK of '(*site).stuck'. Conditions: the stations and the hour are there; the land is without an error.
-/
import Derived.Test.YtojbdmdjepgpjaaWh
namespace Go.Proofs.Ytojbdmdjepgpjaa
open Go.RowKit

/-- The numbers below k that pass the test. -/
def uptoF (p : Nat → Bool) (k : Nat) : List Int := ((List.range k).filter p).map fun i => Int.ofNat i
theorem uptoF_yes {p : Nat → Bool} {k : Nat} (h : p k = true) : uptoF p (k + 1) = uptoF p k ++ [(k : Int)] := by simp [uptoF, List.range_succ, List.filter_append, h]
theorem uptoF_no {p : Nat → Bool} {k : Nat} (h : p k = false) : uptoF p (k + 1) = uptoF p k := by simp [uptoF, List.range_succ, List.filter_append, h]
theorem uptoF_length {p : Nat → Bool} {k : Nat} : (uptoF p k).length ≤ k := by
  unfold uptoF
  rw [List.length_map]
  have := List.length_filter_le p (List.range k)
  rwa [List.length_range] at this
theorem uptoF_head (p : Nat → Bool) (k : Nat) : ∀ y ∈ uptoF p k, (uptoF p k).headD 0 ≤ y := by
  have h : (uptoF p k).Pairwise (fun a b => a ≤ b) := by
    unfold uptoF
    refine List.Pairwise.map _ (fun a b hab => ?_) ((List.pairwise_lt_range (n := k)).filter _)
    exact Int.ofNat_le.2 (Nat.le_of_lt hab)
  intro y hy
  cases hw : uptoF p k with
  | nil => rw [hw] at hy; cases hy
  | cons x r =>
    rw [hw] at hy h
    rcases List.mem_cons.1 hy with rfl | hy
    · exact Int.le_refl _
    · exact (List.pairwise_cons.1 h).1 y hy

def stuckI (L : Ld) (a b h : Int) : List Int := uptoF (fun k => !freeB L a b k h) L.cs.length

/-- Blocks that N names, and the one in which v lies. -/
def andOwn (N : Nat → Prop) (v : Value) (b : Nat) : Prop := N b ∨ v.ownBlock = some b
theorem andOwn_lt {N : Nat → Prop} {v : Value} {B : Nat} {w : World} {base e size n : Nat} {xs : List Value} (hN : ∀ g, N g → g < B) (hB : B ≤ w.heap.size) (h : w.ownsRow base e size v n xs) : ∀ g, andOwn N v g → g < w.heap.size := fun g hg => hg.elim (fun h1 => Nat.lt_of_lt_of_le (hN g h1) hB) fun h1 => (h.lt g h1).2
theorem own_still {w w' : World} {base e size n gm : Nat} {v : Value} {xs : List Value} (h : w.ownsRow base e size v n xs) (hgm : gm < base) (hg : w.grownBy w' (some gm)) : w'.ownsRow base e size v n xs :=
  h.kept hg (.inr fun e' => by have := (h.lt gm e').1; omega)
section
variable {N N0 : Nat → Prop} {w0 w1 w2 : World} {gs gm : Nat} {v1 v2 v3 v4 v v' : Value} {L : Ld} {c : List (Value × List Cl)} {o : Obj} {n : Nat} {xs : List Value}
theorem site_nil (h : SiteN N w0 gs gm v1 v2 v3 v4 L c) : SiteN (andOwn N (.slice none 0 0)) w0 gs gm v1 v2 v3 v4 L c := h.more fun b _ hb => hb.elim id fun h => by cases h
theorem site_append (hS : SiteN (andOwn N v) w1 gs gm v1 v2 v3 v4 L c) (h0 : SiteN N0 w0 gs gm v1 v2 v3 v4 L c) (hg : w0.grownBy w1 (some gm)) (hn : ¬ N gm) (hown : w1.ownsRow w0.heap.size 3 1 v n xs)
    (hgrow : (w1.alloc o).grownBy w2 v.ownBlock) (hat : v'.ownBlock = v.ownBlock ∨ v'.ownBlock = some (w1.alloc o).heap.size) : SiteN (andOwn N v') w2 gs gm v1 v2 v3 v4 L c ∧ w0.grownBy w2 (some gm) := by
  have hlt := h0.lt
  have hsz : w0.heap.size ≤ (w1.alloc o).heap.size := Nat.le_trans hg.size (by simp)
  have hga : w0.grownBy w2 (some gm) := by
    have ha := grown_later hg (up_alloc up0 o)
    refine ⟨hgrow.os.trans ha.os, hgrow.tape.trans ha.tape, hgrow.output.trans ha.output, Nat.le_trans ha.size hgrow.size, fun i hi hne => (hgrow.block i (Nat.lt_of_lt_of_le hi hsz) fun e => ?_).trans (ha.block i hi hne)⟩
    have := (hown.lt i e.symm).1
    omega
  refine ⟨?_, hga⟩
  have hSa : SiteN (fun b => N b ∨ v.ownBlock = some b ∨ v'.ownBlock = some b) (w1.alloc o) gs gm v1 v2 v3 v4 L c := (hS.kept (up_alloc up0 o)).more fun b hb hN => by
    rcases hN with h | h | h
    · exact .inl h
    · exact .inr h
    · rcases hat with e | e
      · exact .inr (e ▸ h)
      · rw [e] at h
        cases h
        omega
  refine (hSa.own h0 hga (OffN.of_grown hgrow fun b e => .inr (.inl e.symm)) fun h => ?_).more fun b _ hN => hN.elim .inl fun h => .inr (.inr h)
  rcases h with h | h | h
  · exact hn h
  · have := (hown.lt gm h).1
    omega
  · rcases hat with e | e
    · rw [e] at h
      have := (hown.lt gm h).1
      omega
    · rw [e] at h
      cases h
      omega
end

set_option maxRecDepth 100000 in
set_option maxHeartbeats 1000000 in
theorem stuck_any (N : Nat → Prop) (gs gm i j h : Nat) (v1 v2 v3 v4 : Value) (L : Ld) (c : List (Value × List Cl)) (w : World) (hS : SiteN N w gs gm v1 v2 v3 v4 L c) (hH : Here L i j h) (hN : ∀ g, N g → g < w.heap.size) (hgm : ¬ N gm) :
    Calls Try.prog 58 #[.pointer (some ⟨gs, 0, none⟩), .int .i64 i, .int .i64 j, .int .i64 h] w fun e w' =>
      ∃ v, e = .returned v ∧ RowsAt w' v 1 (fun n => [iv n]) (stuckI L i j h) ∧ SiteN N w' gs gm v1 v2 v3 v4 L c ∧ w.grownBy w' (some gm) := by
  obtain ⟨i0, hi, hz0, hz1, hz2⟩ := info_parts int_info
  obtain ⟨hn3, A3, cap3, rfl, _, _⟩ := hS.land.cs.form
  have hcl := cs_len hS.land.eq
  have hX := hS.box
  have hgl := hS.lt
  have c_hX := fun i => hX.cell i
  have HS := Lib.hid hS
  have HH := Lib.hid hH
  have HN := Lib.hid hN
  have Hgm := Lib.hid hgm
  have Hcl := Lib.hid hcl
  clear hS hH hN hgm hcl hX
  go_enter Try.func58, Try.ntmps58
  go_wp2_with fail
  clear c_hX
  go_loopw [9, 17] (fun v q wr => ∃ k : Nat, k ≤ c.length ∧ q = .int .i64 k ∧ wr.ownsRow w.heap.size 3 1 v (uptoF (fun k => !freeB L i j k h) k).length ((uptoF (fun k => !freeB L i j k h) k).map iv) ∧
    Hid (SiteN (andOwn N v) wr gs gm v1 v2 (.slice A3 c.length cap3) v4 L c) ∧ Hid (w.grownBy wr (some gm))) (fun _ q _ => c.length - (intOf q).toNat)
  case atStart => exact ⟨0, by omega, rfl, World.ownsRow_nil _ _ _ _, site_nil HS.out, grown0⟩
  case round =>
    obtain ⟨k, hk, rfl, hown, hSn, hg⟩ := hrel
    by_cases hlt : k < c.length
    · have hlen := uptoF_length (p := fun k => !freeB L i j k h) (k := k)
      have HO := Lib.hid hown
      have Hk : k < L.cs.length := by have := Hcl.out; omega
      have hcall := free_any (andOwn N _) gs gm i j k h v1 v2 _ v4 L c wr hSn.out HH.out Hk (andOwn_lt HN.out hg.out.size hown)
      cases hf : freeB L i j k h with
      | true =>
        rw [hf] at hcall
        have Hc := Lib.hid hcall
        have Hf := Lib.hid hf
        clear hcall hf hown
        go_wp2_with fail
        refine Hc.out.mono ?_
        rintro e w1 ⟨rfl, hS1, hg1⟩
        go_wp2_with fail
        refine ⟨⟨k + 1, by omega, by go_num, ?_, hS1, grown_trans hg.out hg1⟩, ?_⟩
        · rw [uptoF_no (by simp [Hf.out])]
          exact own_still HO.out hgl hg1
        · simp [intOf]; omega
      | false =>
        rw [hf] at hcall
        have Hc := Lib.hid hcall
        have Hf := Lib.hid hf
        clear hcall hf hown
        go_wp2_with fail
        refine Hc.out.mono ?_
        rintro e w1 ⟨rfl, hS1, hg1⟩
        have hgw := grown_trans hg.out hg1
        have hown := own_still HO.out hgl hg1
        go_wp2_with (at_builtin; refine wpList_append_own_at _ rfl _ _ 41 rfl w.heap.size 3 i0 (.int .i64 0) 1 8 Try.underlying41 hi hz0 hz1 hz2 rfl (by decide) _ _ _ rfl (hown.alloc _) ⟨w1.heap.size, 0, none⟩ 1 1 [.int .i64 k] rfl rfl (cell_one_new _ _ _) (by simp [Value.oneCell']) (by unfold maxLen; omega) (by omega) (by have := hgw.size; simp; omega) ?_; intro v' w2 hown' hgrow _ hat)
        obtain ⟨hS2, hg2⟩ := site_append hS1 HS.out hgw Hgm.out hown hgrow hat
        refine ⟨⟨k + 1, by omega, by go_num, ?_, hS2, hg2⟩, ?_⟩
        · rw [uptoF_yes (by simp [Hf.out])]
          simpa using hown'
        · simp [intOf]; omega
    · obtain rfl : k = c.length := by omega
      have HO := Lib.hid hown
      have hlen := uptoF_length (p := fun k => !freeB L i j k h) (k := c.length)
      clear hown
      go_wp2_with fail
      go_ret
      refine ⟨_, rfl, ?_, hSn.out.more fun b _ hb => .inl hb, hg.out⟩
      have h := RowsAt.of_own HO.out (by omega)
      unfold stuckI
      rw [← Hcl.out]
      exact h

end Go.Proofs.Ytojbdmdjepgpjaa
