/-
  WALK of the function that '(desk).best' calls again and again, where the plan is known, or no day is left over. Conditions: the map holds best plans alone.
-/
import Derived.Test.YtkhfkmfofhnmdaaCu
namespace Go.Proofs.Ytkhfkmfofhnmdaa
open Go.RowKit

def freeB (n2 : Nat) (ls : List Ls) (k day : Int) : Bool := decide (day < takenI n2 ls k)
/-- The best plan of a book for the last r days. -/
def planI (b : Bk) (ls : List Ls) (most : Int) (r : Nat) (x : Eve) : List Int × Int := bestF b.ks.length most (freeB b.ds.length ls) r x
/-- What does not change while the best plan is looked for. -/
structure Fr (gm b2 b3 b5 b6 : Nat) (b : Bk) (A1 A2 A3 : Option Addr) (c1 c2 c3 : Nat) (ls : List Ls) (most : Int) (w : World) : Prop where
  known : Box w b5 143 #[.map (some gm)]
  desk : Box w b2 98 #[iv b.n, iv b.w, .slice A1 b.ks.length c1, .slice A2 b.ds.length c2, .slice A3 ls.length c3]
  most : Box w b3 3 #[iv most]
  ext : Box w b6 144 #[.func (.func 101) #[] #[.pointer (some ⟨b5, 0, none⟩), .pointer (some ⟨b2, 0, none⟩), .pointer (some ⟨b3, 0, none⟩), .pointer (some ⟨b6, 0, none⟩)]]
  ls : RowsAt w (.slice A3 ls.length c3) 2 Ls.cells ls
/-- The slice owns the numbers l. -/
def OwnI (w : World) (v : Value) (l : List Int) : Prop := w.ownsRow 0 3 1 v l.length (l.map iv)
/-- All plans that are known are best ones. -/
def KnownOK (b : Bk) (ls : List Ls) (most : Int) (w : World) (m : List (Eve × Value)) : Prop :=
  ∀ y ∈ m, ∃ r, EvOK b.ds.length r y.1 ∧ ∃ v, y.2 = .agg #[v, iv (planI b ls most r y.1).2] ∧ OwnI w v (planI b ls most r y.1).1

section
variable {gm b2 b3 b5 b6 : Nat} {b : Bk} {A1 A2 A3 : Option Addr} {c1 c2 c3 : Nat} {ls : List Ls} {most : Int} {w w' w1 : World} {m : List (Eve × Value)}
theorem Box.ne_map {g : Nat} {t : TypeId} {cs : Array Value} (h : Box w g t cs) (hm : MapAt w gm m) : some g ≠ some gm := by
  intro e
  cases e
  obtain ⟨es, clock, h1, _⟩ := hm
  unfold Box at h
  rw [h] at h1
  cases h1
theorem Fr.kept (h : Fr gm b2 b3 b5 b6 b A1 A2 A3 c1 c2 c3 ls most w) (hb : Below w.heap.size w w') : Fr gm b2 b3 b5 b6 b A1 A2 A3 c1 c2 c3 ls most w' :=
  ⟨h.known.kept hb, h.desk.kept hb, h.most.kept hb, h.ext.kept hb, h.ls.kept hb⟩
theorem Fr.grown (h : Fr gm b2 b3 b5 b6 b A1 A2 A3 c1 c2 c3 ls most w) (hm : MapAt w gm m) (hg : w.grownBy w' (some gm)) : Fr gm b2 b3 b5 b6 b A1 A2 A3 c1 c2 c3 ls most w' :=
  ⟨h.known.grown hg (h.known.ne_map hm), h.desk.grown hg (h.desk.ne_map hm), h.most.grown hg (h.most.ne_map hm), h.ext.grown hg (h.ext.ne_map hm), RowsAt.grown h.ls (fun _ => rfl) hm hg⟩
theorem KnownOK.kept (h : KnownOK b ls most w m) (hb : Below w.heap.size w w') : KnownOK b ls most w' m := fun y hy => by
  obtain ⟨r, h1, v, h2, h3⟩ := h y hy
  exact ⟨r, h1, v, h2, own_below h3 hb⟩
theorem OwnI.grown {v : Value} {l : List Int} (h : OwnI w v l) (hm : MapAt w gm m) (hg : w.grownBy w' (some gm)) : OwnI w' v l := by
  refine World.ownsRow.kept h hg ?_
  rcases h.2 with ⟨rfl, _⟩ | ⟨g, cap, cur, rfl, _, hb, _⟩
  · exact .inl rfl
  · refine .inr fun e => ?_
    have e : g = gm := by simpa [Value.ownBlock] using e
    subst e
    obtain ⟨es, clock, h1, _⟩ := hm
    rw [hb] at h1
    cases h1
theorem OwnI.put {B t i : Nat} {cs : Array Value} {u v : Value} {l : List Int} (h : OwnI w v l) (hb : Box w B t cs) (ht : t ≠ 3) : OwnI (w.setCell ⟨B, i, none⟩ u) v l := own_set h hb ht
theorem MapAt.put {B t i : Nat} {cs : Array Value} {u : Value} (h : MapAt w gm m) (hb : Box w B t cs) : MapAt (w.setCell ⟨B, i, none⟩ u) gm m := by
  have hne := hb.ne_map h
  obtain ⟨es, clock, h1, h2⟩ := h
  exact ⟨es, clock, (Below.heap_setCell _ ⟨B, i, none⟩ _ gm (fun e => hne (by rw [e]))).trans h1, h2⟩
theorem KnownOK.put {B t i : Nat} {cs : Array Value} {u : Value} (h : KnownOK b ls most w m) (hb : Box w B t cs) (ht : t ≠ 3) : KnownOK b ls most (w.setCell ⟨B, i, none⟩ u) m := fun y hy => by
  obtain ⟨r, h1, v, h2, h3⟩ := h y hy
  exact ⟨r, h1, v, h2, h3.put hb ht⟩
theorem KnownOK.grown (h : KnownOK b ls most w m) (hm : MapAt w gm m) (hg : w.grownBy w' (some gm)) : KnownOK b ls most w' m := fun y hy => by
  obtain ⟨r, h1, v, h2, h3⟩ := h y hy
  exact ⟨r, h1, v, h2, h3.grown hm hg⟩
theorem grown_later (hg : w.grownBy w1 (some gm)) (hb : Below w1.heap.size w1 w') : w.grownBy w' (some gm) := grown_tr hg (grown_row (grown_of_below hb))
theorem look_known {x : Eve} {val : Value} {r : Nat} (h : KnownOK b ls most w m) (hl : look m x = some val) (hx : EvOK b.ds.length r x) : ∃ v, val = .agg #[v, iv (planI b ls most r x).2] ∧ OwnI w v (planI b ls most r x).1 := by
  unfold look at hl
  cases hf : m.find? (fun y => x.same y.1) with
  | none => rw [hf] at hl; cases hl
  | some y =>
    rw [hf] at hl
    have hv : y.2 = val := by simpa using hl
    have hy := List.mem_of_find?_eq_some hf
    have hs := Eve.same_iff.1 (by simpa using List.find?_some hf)
    obtain ⟨r', h1, v, h2, h3⟩ := h y hy
    rw [← hs] at h1 h2 h3
    have : r' = r := by have := h1.dr; have := hx.dr; omega
    subst this
    exact ⟨v, hv ▸ h2, h3⟩
end

/-- What the function hands back. -/
def ExtPost (gm : Nat) (b : Bk) (ls : List Ls) (most : Int) (r : Nat) (x : Eve) (m : List (Eve × Value)) (w : World) (e : Ending) (w' : World) : Prop :=
  ∃ v m', e = .returned (.agg #[v, iv (planI b ls most r x).2]) ∧ OwnI w' v (planI b ls most r x).1 ∧ w.grownBy w' (some gm) ∧ MapAt w' gm m' ∧ KnownOK b ls most w' m' ∧ ∀ k : Eve, k.day < x.day → look m k = none → look m' k = none

set_option maxRecDepth 100000 in
set_option maxHeartbeats 1000000 in
theorem ext_found (gm b2 b3 b5 b6 : Nat) (b : Bk) (A1 A2 A3 : Option Addr) (c1 c2 c3 : Nat) (ls : List Ls) (most : Int) (r : Nat) (x : Eve) (m : List (Eve × Value)) (val : Value) (w : World)
    (hF : Fr gm b2 b3 b5 b6 b A1 A2 A3 c1 c2 c3 ls most w) (hm : MapAt w gm m) (hk : KnownOK b ls most w m) (hx : EvOK b.ds.length r x) (hl : look m x = some val) :
    Calls Try.prog 101 #[x.val, .pointer (some ⟨b5, 0, none⟩), .pointer (some ⟨b2, 0, none⟩), .pointer (some ⟨b3, 0, none⟩), .pointer (some ⟨b6, 0, none⟩)] w (ExtPost gm b ls most r x m w) := by
  obtain ⟨v, rfl, hv⟩ := look_known hk hl hx
  have HF := Lib.hid hF
  have HM := Lib.hid hm
  have HK := Lib.hid hk
  have HV := Lib.hid hv
  have HLk := Lib.hid hl
  clear hF hm hk hv hl
  obtain ⟨P, hP⟩ : ∃ P, (planI b ls most r x) = P := ⟨_, rfl⟩
  obtain ⟨Av, cv, hve⟩ := own_form' HV.out
  unfold ExtPost
  rw [hP] at HV HLk hve ⊢
  subst hve
  unfold Eve.val Eve.cells
  go_enter Try.func101, Try.ntmps101
  have hB : Below w.heap.size w ((w.alloc (.cells #[iv x.day, iv x.last, iv x.a, iv x.b, iv x.c, iv x.d, iv x.e] 147)).alloc (.cells #[.slice none 0 0, iv 0] 113)) := up_alloc (up_alloc up0 _) _
  have hlk := run_lookup (HM.out.kept hB) x
  rw [HLk.out] at hlk
  unfold Eve.val Eve.cells at hlk
  have HB := Lib.hid hB
  have b1 := HF.out.known.kept hB
  have k1 := fun i => b1.cell i
  simp only [Option.getD_some, Option.isSome_some] at hlk
  go_wp2_with fail
  clear hlk k1 b1 hB
  have hB : Below w.heap.size w (((w.alloc (.cells #[iv x.day, iv x.last, iv x.a, iv x.b, iv x.c, iv x.d, iv x.e] 147)).alloc (.cells #[.slice Av P.1.length cv, iv P.2] 113)).alloc (.cells #[.slice Av P.1.length cv, iv P.2] 113)) := up_alloc (up_alloc (up_alloc up0 _) _) _
  have N := (Box.new (w := w.alloc (.cells #[iv x.day, iv x.last, iv x.a, iv x.b, iv x.c, iv x.d, iv x.e] 147)) (g := w.heap.size + 1) (t := 113) (cs := #[.slice Av P.1.length cv, iv P.2]) (by simp)).alloc (.cells #[.slice Av P.1.length cv, iv P.2] 113)
  have cN := fun i => N.cell i
  refine bodyPost_ret (v := .agg #[.slice Av P.1.length cv, iv P.2]) (by simp [results, Try.results101, go_sem, cN]) rfl ?_
  exact ⟨_, m, rfl, own_below HV.out hB, grown_row (grown_of_below hB), HM.out.kept hB, HK.out.kept hB, fun _ _ h => h⟩

set_option maxRecDepth 100000 in
set_option maxHeartbeats 1000000 in
theorem ext_end (gm b2 b3 b5 b6 : Nat) (b : Bk) (A1 A2 A3 : Option Addr) (c1 c2 c3 : Nat) (ls : List Ls) (most : Int) (x : Eve) (m : List (Eve × Value)) (w : World)
    (hF : Fr gm b2 b3 b5 b6 b A1 A2 A3 c1 c2 c3 ls most w) (hm : MapAt w gm m) (hk : KnownOK b ls most w m) (hx : EvOK b.ds.length 0 x) (hl : look m x = none) :
    Calls Try.prog 101 #[x.val, .pointer (some ⟨b5, 0, none⟩), .pointer (some ⟨b2, 0, none⟩), .pointer (some ⟨b3, 0, none⟩), .pointer (some ⟨b6, 0, none⟩)] w (ExtPost gm b ls most 0 x m w) := by
  have HF := Lib.hid hF
  have HM := Lib.hid hm
  have HK := Lib.hid hk
  have HLk := Lib.hid hl
  have hd : x.day = (b.ds.length : Int) := by have := hx.dr; omega
  have hd' : (x.day == (b.ds.length : Int)) = true := by simpa using hd
  clear hF hm hk hl hd hx
  unfold ExtPost
  rw [show planI b ls most 0 x = ([], 0) from rfl]
  unfold Eve.val Eve.cells
  go_enter Try.func101, Try.ntmps101
  have hB : Below w.heap.size w ((w.alloc (.cells #[iv x.day, iv x.last, iv x.a, iv x.b, iv x.c, iv x.d, iv x.e] 147)).alloc (.cells #[.slice none 0 0, iv 0] 113)) := up_alloc (up_alloc up0 _) _
  have hlk := run_lookup (HM.out.kept hB) x
  rw [HLk.out] at hlk
  unfold Eve.val Eve.cells at hlk
  have HB := Lib.hid hB
  have b1 := HF.out.known.kept hB
  have k1 := fun i => b1.cell i
  simp only [Option.getD_none, Option.isSome_none] at hlk
  have b2' := ((HF.out.desk.kept hB).alloc (.cells #[.slice none 0 0, iv 0] 113))
  have k2 := fun i => b2'.cell i
  go_wp2_with fail
  clear hlk k1 b1 hB k2 b2'
  have hB : Below w.heap.size w (((w.alloc (.cells #[iv x.day, iv x.last, iv x.a, iv x.b, iv x.c, iv x.d, iv x.e] 147)).alloc (.cells #[.slice none 0 0, iv 0] 113)).alloc (.cells #[.slice none 0 0, iv 0] 113)) := up_alloc (up_alloc (up_alloc up0 _) _) _
  have N := (Box.new (w := w.alloc (.cells #[iv x.day, iv x.last, iv x.a, iv x.b, iv x.c, iv x.d, iv x.e] 147)) (g := w.heap.size + 1) (t := 113) (cs := #[.slice none 0 0, iv 0]) (by simp)).alloc (.cells #[.slice none 0 0, iv 0] 113)
  have cN := fun i => N.cell i
  refine bodyPost_ret (v := .agg #[.slice none 0 0, iv 0]) (by simp [results, Try.results101, go_sem, cN]) rfl ?_
  exact ⟨_, m, rfl, World.ownsRow_nil _ _ _ _, grown_row (grown_of_below hB), HM.out.kept hB, HK.out.kept hB, fun _ _ h => h⟩

end Go.Proofs.Ytkhfkmfofhnmdaa
