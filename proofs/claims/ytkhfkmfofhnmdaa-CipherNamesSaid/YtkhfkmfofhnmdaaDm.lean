/-
  PLAIN: a book that comes in, read: its lists, by their cells; and that it reads as before behind a call that leaves old blocks alone.
-/
import Derived.Test.YtkhfkmfofhnmdaaPb
import Derived.Test.YtkhfkmfofhnmdaaCa
import Derived.Test.YtkhfkmfofhnmdaaCp
import Derived.Deep.Slices
import Derived.Carry
namespace Go.Proofs.Ytkhfkmfofhnmdaa
open Go.ChangeShapes Go.WideShapes Go.ChangeAt Go.RowKit

def RowsAny {α : Type} (w : World) (v : Value) (sz : Nat) (cells : α → List Value) (l : List α) : Prop :=
  ∃ A cap, v = .slice A l.length cap ∧ l.length ≤ cap ∧ cap ≤ 9223372036854775807 ∧
    (l ≠ [] → ∃ b off, A = some ⟨b, off, none⟩ ∧ b < w.heap.size ∧ ∀ i x, l[i]? = some x → ∀ j u, (cells x)[j]? = some u → w.cell? ⟨b, off + i * sz + j, none⟩ = some u)
theorem RowsAny.rows {α : Type} {w : World} {v : Value} {sz : Nat} {cells : α → List Value} {l : List α} (h : RowsAny w v sz cells l) (hn : l.length ≤ 1000) : RowsAt w v sz cells l := ⟨hn, h⟩
theorem RowsAny.form {α : Type} {w : World} {v : Value} {sz : Nat} {cells : α → List Value} {l : List α} (h : RowsAny w v sz cells l) : ∃ A cap, v = .slice A l.length cap ∧ l.length ≤ cap ∧ cap ≤ 9223372036854775807 := by
  obtain ⟨A, cap, h1, h2, h3, _⟩ := h
  exact ⟨A, cap, h1, h2, h3⟩
theorem RowsAny.kept {α : Type} {w w' : World} {v : Value} {sz : Nat} {cells : α → List Value} {l : List α} (h : RowsAny w v sz cells l) (hb : Below w.heap.size w w') : RowsAny w' v sz cells l := by
  obtain ⟨A, cap, h1, h2, h3, h4⟩ := h
  refine ⟨A, cap, h1, h2, h3, fun hne => ?_⟩
  obtain ⟨b, off, e, hlt, hc⟩ := h4 hne
  exact ⟨b, off, e, Nat.lt_of_lt_of_le hlt hb.size, fun i x hx j u hu => (hb.cell (p := ⟨b, off + i * sz + j, none⟩) hlt).trans (hc i x hx j u hu)⟩
theorem RowsAny.at {α : Type} {w : World} {v : Value} {sz : Nat} {cells : α → List Value} {l : List α} (h : RowsAny w v sz cells l) {A : Option Addr} {n cap : Nat} (hv : v = .slice A n cap) {i : Nat} {x : α} (hx : l[i]? = some x) :
    ∃ b off, A = some ⟨b, off, none⟩ ∧ b < w.heap.size ∧ ∀ j u, (cells x)[j]? = some u → w.cell? ⟨b, off + i * sz + j, none⟩ = some u := by
  obtain ⟨A', cap', h1, _, _, h4⟩ := h
  have hne : l ≠ [] := fun e => by subst e; simp at hx
  obtain ⟨b, off, e, hlt, hc⟩ := h4 hne
  rw [hv] at h1
  injection h1 with hA
  subst hA
  exact ⟨b, off, e, hlt, fun j u hu => hc i x hx j u hu⟩

structure BookAny (w : World) (v1 v2 : Value) (b : Bk) : Prop where
  ks : RowsAny w v1 3 Ky.cells b.ks
  ds : RowsAny w v2 1 ic b.ds
theorem BookAny.at {w : World} {v1 v2 : Value} {b : Bk} (h : BookAny w v1 v2 b) (h1 : b.ks.length ≤ 8) (h2 : b.ds.length ≤ 11) : BookAt w v1 v2 b := ⟨h.ks.rows (by omega), h.ds.rows (by omega)⟩

theorem list_by {α : Type} {n : Nat} {q : Nat → α → Prop} (h : ∀ i, i < n → ∃ a, q i a) : ∃ l : List α, l.length = n ∧ ∀ i a, l[i]? = some a → q i a := by
  induction n with
  | zero => exact ⟨[], rfl, fun i a ha => by simp at ha⟩
  | succ n ih =>
    obtain ⟨l, hl, hq⟩ := ih fun i hi => h i (by omega)
    obtain ⟨a, ha⟩ := h n (by omega)
    refine ⟨l ++ [a], by simp [hl], fun i b hb => ?_⟩
    by_cases hi : i < l.length
    · rw [List.getElem?_append_left hi] at hb
      exact hq i b hb
    · rw [List.getElem?_append_right (by omega)] at hb
      have h0 : i - l.length = 0 := by
        have := (List.getElem?_eq_some_iff.1 hb).1
        simp at this
        omega
      rw [h0] at hb
      have hab : a = b := by simpa using hb
      subst hab
      have : i = n := by omega
      subst this
      exact ha

theorem addr_add (b o k : Nat) : (⟨b, o, none⟩ : Addr).add k = ⟨b, o + k, none⟩ := by
  unfold Addr.add
  by_cases h : k = 0 <;> simp [h]

section
variable {H : Type} {enc : TypeId × Value → H} {W : World} {base : Nat} {spare : Nat → Bool} {held : Bool}

theorem open_rows {α : Type} {P : Program} {t e : TypeId} {sz fuel : Nat} {cs : List Value} {x : DataW H × List MemPlace} {cells : α → List Value} {p : α → Prop} (ht : P.underlying t = some (.slice e)) (hsz : P.cellsOf e = sz) (hs0 : 0 < sz)
    (hread : ∀ fuel cs x, DataW.trod enc P W base spare held fuel e cs = some x → ∃ a : α, cs = cells a ∧ p a) (h : DataW.trod enc P W base spare held fuel t cs = some x) : ∃ v l, cs = [v] ∧ RowsAny W v sz cells l ∧ ∀ a ∈ l, p a := by
  rcases Deep.open_slice ht h with ⟨rfl, _⟩ | ⟨a, len, cap, m, n, D, Pl, rfl, hb, hle, hcm, hm, _, hel⟩
  · exact ⟨_, [], rfl, ⟨none, 0, rfl, by simp, by omega, fun h => absurd rfl h⟩, fun _ h => by cases h⟩
  · have hlm : len ≤ m := by rw [hm]; split <;> omega
    obtain ⟨l, hl, hq⟩ := list_by (n := len) (q := fun i (z : α) => W.cells? base (a.add (i * sz)) sz = some (cells z) ∧ p z) fun i hi => by
      obtain ⟨cs', h1, h2⟩ := hel i (by omega)
      obtain ⟨z, rfl, hz⟩ := hread _ _ _ h2
      exact ⟨z, by rw [← hsz]; exact h1, hz⟩
    refine ⟨_, l, rfl, ⟨some a, cap, by rw [hl], by omega, by unfold maxLen at hcm; omega, fun hne => ?_⟩, fun z hz => ?_⟩
    · obtain ⟨z0, hz0⟩ : ∃ z, l[0]? = some z := ⟨_, List.getElem?_eq_getElem (by have := List.length_pos_iff.2 hne; omega)⟩
      have h0 := World.cells?_some (hq 0 z0 hz0).1
      have hc0 := h0.2.2 0 hs0
      obtain ⟨u0, hu0⟩ : ∃ u, (cells z0)[0]? = some u := ⟨_, List.getElem?_eq_getElem (by rw [h0.2.1]; exact hs0)⟩
      rw [hu0] at hc0
      obtain ⟨ab, ao, asp⟩ := a
      have hsp : asp = none := by
        cases asp with
        | none => rfl
        | some s =>
          exfalso
          simp only [Nat.zero_mul] at hc0
          unfold World.cell? at hc0
          simp [Addr.add] at hc0
          split at hc0 <;> simp at hc0
      subst hsp
      have hlt : ab < W.heap.size := by
        have := World.block_lt_of_cell? W _ hc0
        simpa [Addr.add] using this
      refine ⟨ab, ao, rfl, hlt, fun i z hz j u hu => ?_⟩
      have hi := World.cells?_some (hq i z hz).1
      have hj : j < sz := by rw [← hi.2.1]; exact (List.getElem?_eq_some_iff.1 hu).1
      have := hi.2.2 j hj
      rw [hu, addr_add, addr_add] at this
      exact this
    · obtain ⟨i, hi, rfl⟩ := List.getElem_of_mem hz
      exact (hq i _ (List.getElem?_eq_getElem hi)).2

/-- A struct of n numbers. -/
theorem open_ints_of {P : Program} {t : TypeId} {n fuel : Nat} {fs : Array Field} {cs : List Value} {x : DataW H × List MemPlace} (ht : P.underlying t = some (.struct fs)) (hf : fs.toList.map (fun f => (f.type, f.offset)) = (List.range n).map fun i => (3, i)) (hc : P.cellsOf t = n)
    (h3 : P.underlying 3 = some (.int .i64)) (hc3 : P.cellsOf 3 = 1) (h : DataW.trod enc P W base spare held fuel t cs = some x) : ∃ ns : List Int, cs = ns.map (fun z => Value.int .i64 z) ∧ ns.length = n := by
  obtain ⟨xs, m, _, _, hlen, hxs, hel⟩ := DataW.trod_struct ht h
  have hn : fs.size = n := by
    have := congrArg List.length hf
    simpa using this
  obtain ⟨ns, hns, hq⟩ := list_by (n := n) (q := fun i (z : Int) => cs[i]? = some (Value.int .i64 z)) fun i hi => by
    obtain ⟨f, hfi⟩ : ∃ f, fs[i]? = some f := ⟨_, Array.getElem?_eq_getElem (by omega)⟩
    have h1 := hel i f hfi
    have h2 : (f.type, f.offset) = (3, i) := by
      have h4 : (fs.toList.map (fun f => (f.type, f.offset)))[i]? = some (f.type, f.offset) := by simp [hfi]
      rw [hf] at h4
      simpa [hi] using h4.symm
    have e1 : f.type = 3 := congrArg Prod.fst h2
    have e2 : f.offset = i := congrArg Prod.snd h2
    rw [e1, e2, hc3] at h1
    obtain ⟨y, hy⟩ : ∃ y, xs[i]? = some y := ⟨_, List.getElem?_eq_getElem (by omega)⟩
    rw [hy] at h1
    obtain ⟨z, hz, _⟩ := DataW.trod_int h3 h1
    refine ⟨z, ?_⟩
    have h5 := congrArg (fun l => l[0]?) hz
    simpa using h5
  refine ⟨ns, List.ext_getElem? fun i => ?_, hns⟩
  by_cases hi : i < n
  · obtain ⟨z, hz⟩ : ∃ z, ns[i]? = some z := ⟨_, List.getElem?_eq_getElem (by omega)⟩
    rw [hq i z hz]
    simp [hz]
  · rw [List.getElem?_eq_none (by omega), List.getElem?_eq_none (by simp; omega)]

theorem int3 : Try.prog.underlying 3 = some (.int .i64) := by kernel_rfl
theorem cell3 : Try.prog.cellsOf 3 = 1 := by kernel_rfl
theorem open_ky {fuel : Nat} {cs : List Value} {x : DataW H × List MemPlace} (h : DataW.trod enc Try.prog W base spare held fuel 85 cs = some x) : ∃ k : Ky, cs = k.cells ∧ True := by
  obtain ⟨ns, rfl, hn⟩ := open_ints_of (n := 3) (fs := Try.prog.fieldsOf 85) (by kernel_rfl) (by kernel_rfl) (by kernel_rfl) int3 cell3 h
  rcases ns with _ | ⟨a, _ | ⟨b, _ | ⟨c, _ | ⟨d, r⟩⟩⟩⟩ <;> simp at hn
  exact ⟨⟨a, b, c⟩, rfl, trivial⟩
theorem open_num {fuel : Nat} {cs : List Value} {x : DataW H × List MemPlace} (h : DataW.trod enc Try.prog W base spare held fuel 3 cs = some x) : ∃ k : Int, cs = ic k ∧ True := by
  obtain ⟨z, hz, _⟩ := DataW.trod_int int3 h
  exact ⟨z, hz, trivial⟩
theorem open_list {fuel : Nat} {cs : List Value} {x : DataW H × List MemPlace} (h : DataW.trod enc Try.prog W base spare held fuel 23 cs = some x) : ∃ v l, cs = [v] ∧ RowsAny W v 1 ic l := by
  obtain ⟨v, l, e, r, _⟩ := open_rows (e := 3) (sz := 1) (cells := ic) (p := fun _ => True) (by kernel_rfl) (by kernel_rfl) (by omega) (fun _ _ _ h => open_num h) h
  exact ⟨v, l, e, r⟩
theorem open_book {fuel : Nat} {cs : List Value} {x : DataW H × List MemPlace} (h : DataW.trod enc Try.prog W base spare held fuel 25 cs = some x) : ∃ v1 v2 b, cs = [iv b.n, iv b.w, v1, v2] ∧ BookAny W v1 v2 b := by
  have hu : Try.prog.underlying 25 = some (.struct (Try.prog.fieldsOf 25)) := by kernel_rfl
  have hf : (Try.prog.fieldsOf 25).toList.map (fun f => (f.type, f.offset)) = [(3, 0), (3, 1), (22, 2), (23, 3)] := by kernel_rfl
  have hc : Try.prog.cellsOf 25 = 4 := by kernel_rfl
  obtain ⟨xs, m, _, _, hlen, hxs, hel⟩ := DataW.trod_struct hu h
  generalize Try.prog.fieldsOf 25 = fs at hf hxs hel
  obtain ⟨fs⟩ := fs
  rcases fs with _ | ⟨f0, _ | ⟨f1, _ | ⟨f2, _ | ⟨f3, _ | ⟨f4, r⟩⟩⟩⟩⟩ <;> simp at hf
  obtain ⟨⟨t0, o0⟩, ⟨t1, o1⟩, ⟨t2, o2⟩, t3, o3⟩ := hf
  have g0 := hel 0 f0 rfl
  have g1 := hel 1 f1 rfl
  have g2 := hel 2 f2 rfl
  have g3 := hel 3 f3 rfl
  have k22 : Try.prog.cellsOf 22 = 1 := by kernel_rfl
  have k23 : Try.prog.cellsOf 23 = 1 := by kernel_rfl
  rw [t0, o0, cell3] at g0
  rw [t1, o1, cell3] at g1
  rw [t2, o2, k22] at g2
  rw [t3, o3, k23] at g3
  have hx4 : xs.length = 4 := by simpa using hxs
  obtain ⟨y0, hy0⟩ : ∃ y, xs[0]? = some y := ⟨_, List.getElem?_eq_getElem (by omega)⟩
  obtain ⟨y1, hy1⟩ : ∃ y, xs[1]? = some y := ⟨_, List.getElem?_eq_getElem (by omega)⟩
  obtain ⟨y2, hy2⟩ : ∃ y, xs[2]? = some y := ⟨_, List.getElem?_eq_getElem (by omega)⟩
  obtain ⟨y3, hy3⟩ : ∃ y, xs[3]? = some y := ⟨_, List.getElem?_eq_getElem (by omega)⟩
  rw [hy0] at g0
  rw [hy1] at g1
  rw [hy2] at g2
  rw [hy3] at g3
  obtain ⟨z0, e0, _⟩ := DataW.trod_int int3 g0
  obtain ⟨z1, e1, _⟩ := DataW.trod_int int3 g1
  obtain ⟨v1, l1, e2, r1, _⟩ := open_rows (e := 85) (sz := 3) (cells := Ky.cells) (p := fun _ => True) (by kernel_rfl) (by kernel_rfl) (by omega) (fun _ _ _ h => open_ky h) g2
  obtain ⟨v2, l2, e3, r2⟩ := open_list g3
  refine ⟨v1, v2, ⟨z0, z1, l1, l2⟩, ?_, ⟨r1, r2⟩⟩
  rw [hc] at hlen
  have e : cs = (cs.drop 0).take 1 ++ ((cs.drop 1).take 1 ++ ((cs.drop 2).take 1 ++ (cs.drop 3).take 1)) := by
    rcases cs with _ | ⟨a, _ | ⟨b, _ | ⟨c, _ | ⟨d, _ | ⟨e, r⟩⟩⟩⟩⟩ <;> simp at hlen
    rfl
  rw [e, e0, e1, e2, e3]
  rfl
end

/-- Arguments read as before, behind a call that leaves old blocks alone. -/
theorem args_stay {H : Type} {enc : TypeId × Value → H} {P : Program} (hl : laidOutB P = true) {W W' : World} (hb : Below W.heap.size W W') : ∀ {ts : List TypeId} {vs : List Value} {ds : List (DataW H)} {ps : List MemPlace}, (∀ t ∈ ts, P.readableRec t = true ∧ t < P.types.size) →
    DataW.TrodAll enc P W 0 (fun _ => true) true ts vs ds ps → (∀ x ∈ ps, x.block < W.heap.size) → ∀ sp : Nat → Bool, (∀ p ∈ ps, sp p.block = true) → DataW.TrodAll enc P W' 0 sp true ts vs ds ps
  | [], [], [], _, _, h, _, _, _ => h
  | t :: ts, v :: vs, d :: ds, ps, ht, ⟨p, q, h1, h2, e⟩, hlt, sp, hsp => by
    subst e
    refine ⟨p, q, WideElems.Trod_stays hl (ht t (List.mem_cons_self ..)).1 (ht t (List.mem_cons_self ..)).2 h1 (fun x hx => hb.same (hlt x (List.mem_append_left _ hx))) (fun x hx => hsp x (List.mem_append_left _ hx)), ?_, rfl⟩
    exact args_stay hl hb (fun t h => ht t (List.mem_cons_of_mem _ h)) h2 (fun x hx => hlt x (List.mem_append_right _ hx)) sp (fun x hx => hsp x (List.mem_append_right _ hx))
  | [], [], _ :: _, _, _, h, _, _, _ => h.elim
  | [], _ :: _, _, _, _, h, _, _, _ => by cases h
  | _ :: _, [], _, _, _, h, _, _, _ => by cases h
  | _ :: _, _ :: _, [], _, _, h, _, _, _ => h.elim

theorem own_knob : ownKnob Try.prog.godebug = Option.none := by kernel_rfl
theorem laid_out : laidOutB Try.prog = true := by kernel_rfl
theorem rec25 : Try.prog.readableRec 25 = true ∧ 25 < Try.prog.types.size := ⟨by kernel_rfl, by have h : decide (25 < Try.prog.types.size) = true := (by kernel_rfl); exact of_decide_eq_true h⟩
theorem rec23 : Try.prog.readableRec 23 = true ∧ 23 < Try.prog.types.size := ⟨by kernel_rfl, by have h : decide (23 < Try.prog.types.size) = true := (by kernel_rfl); exact of_decide_eq_true h⟩
theorem rec5 : Try.prog.readableRec 5 = true ∧ 5 < Try.prog.types.size := ⟨by kernel_rfl, by have h : decide (5 < Try.prog.types.size) = true := (by kernel_rfl); exact of_decide_eq_true h⟩
theorem und25 : Try.prog.underlying 25 = some (.struct (Try.prog.fieldsOf 25)) := by kernel_rfl

end Go.Proofs.Ytkhfkmfofhnmdaa
