/-
  The sort of texts: slices.SortFunc by the library's contract. Conditions: at most 20000 texts of at most 1000 letters.
-/
import Derived.Shelf.SlSortCmp.NoneTotal
import Derived.Test.YtonekgefegfapaaGreatGi
namespace Go.Proofs.YtonekgefegfapaaGreat
open Go.RowKit Go.Shelf

def renF : Go.Shelf.Ren := ⟨fun | 6 => 91 | 15 => 116 | 14 => 115 | 28 => 135 | 29 => 136 | 20 => 127 | 21 => 128 | 22 => 129 | 23 => 130 | 24 => 131 | 25 => 132 | 26 => 133 | 27 => 134 | 46 => 141 | 47 => 142 | 48 => 143 | 49 => 144 | 50 => 145 | 57 => 147 | n => n, fun | 22 => 50 | 24 => 25 | 25 => 148 | 3 => 3 | 39 => 162 | 0 => 0 | 53 => 183 | 55 => 185 | 4 => 4 | 46 => 177 | 45 => 176 | 50 => 43 | 5 => 5 | 9 => 9 | 66 => 191 | 70 => 195 | 76 => 197 | 77 => 62 | n => n, fun | n => n⟩
theorem laysF : Go.Proofs.SlLaysF.n6 Tryz.prog renF := {
  mixed := by kernel_rfl
  f6 := ⟨Tryz.f91.name, by decide, Tryz.func91.trans (congrArg some (by kernel_rfl))⟩
  f14 := ⟨Tryz.f115.name, by decide, Tryz.func115.trans (congrArg some (by kernel_rfl))⟩
  f15 := Tryz.func116.trans (congrArg some (by kernel_rfl))
  f20 := ⟨Tryz.f127.name, by decide, Tryz.func127.trans (congrArg some (by kernel_rfl))⟩
  f21 := ⟨Tryz.f128.name, by decide, Tryz.func128.trans (congrArg some (by kernel_rfl))⟩
  f22 := ⟨Tryz.f129.name, by decide, Tryz.func129.trans (congrArg some (by kernel_rfl))⟩
  f23 := ⟨Tryz.f130.name, by decide, Tryz.func130.trans (congrArg some (by kernel_rfl))⟩
  f24 := ⟨Tryz.f131.name, by decide, Tryz.func131.trans (congrArg some (by kernel_rfl))⟩
  f25 := ⟨Tryz.f132.name, by decide, Tryz.func132.trans (congrArg some (by kernel_rfl))⟩
  f26 := ⟨Tryz.f133.name, by decide, Tryz.func133.trans (congrArg some (by kernel_rfl))⟩
  f27 := ⟨Tryz.f134.name, by decide, Tryz.func134.trans (congrArg some (by kernel_rfl))⟩
  f28 := Tryz.func135.trans (congrArg some (by kernel_rfl))
  f29 := Tryz.func136.trans (congrArg some (by kernel_rfl))
  f46 := ⟨Tryz.f141.name, by decide, Tryz.func141.trans (congrArg some (by kernel_rfl))⟩
  f47 := Tryz.func142.trans (congrArg some (by kernel_rfl))
  f48 := Tryz.func143.trans (congrArg some (by kernel_rfl))
  f49 := ⟨Tryz.f144.name, by decide, Tryz.func144.trans (congrArg some (by kernel_rfl))⟩
  f50 := ⟨Tryz.f145.name, by decide, Tryz.func145.trans (congrArg some (by kernel_rfl))⟩
  f57 := ⟨Tryz.f147.name, by decide, Tryz.func147.trans (congrArg some (by kernel_rfl))⟩
  t0 := Tryz.underlying0
  a0 := Tryz.isAgg0
  z0 := Tryz.sizeOf0
  v0 := Tryz.zeroValue0
  t3 := Tryz.underlying3
  a3 := Tryz.isAgg3
  z3 := Tryz.sizeOf3
  v3 := Tryz.zeroValue3
  t4 := Tryz.underlying4
  a4 := Tryz.isAgg4
  z4 := Tryz.sizeOf4
  v4 := Tryz.zeroValue4
  t5 := Tryz.underlying5
  a5 := Tryz.isAgg5
  z5 := Tryz.sizeOf5
  v5 := Tryz.zeroValue5
  t9 := Tryz.underlying9
  a9 := Tryz.isAgg9
  z9 := Tryz.sizeOf9
  v9 := Tryz.zeroValue9
  t22 := Tryz.underlying50
  a22 := Tryz.isAgg50
  z22 := Tryz.sizeOf50
  v22 := Tryz.zeroValue50
  a24 := Tryz.isAgg25
  z24 := Tryz.sizeOf25
  t25 := Tryz.underlying148
  a25 := Tryz.isAgg148
  z25 := Tryz.sizeOf148
  v25 := Tryz.zeroValue148
  t39 := Tryz.underlying162
  a39 := Tryz.isAgg162
  z39 := Tryz.sizeOf162
  v39 := Tryz.zeroValue162
  t45 := Tryz.underlying176
  a45 := Tryz.isAgg176
  z45 := Tryz.sizeOf176
  v45 := Tryz.zeroValue176
  t46 := Tryz.underlying177
  a46 := Tryz.isAgg177
  z46 := Tryz.sizeOf177
  v46 := Tryz.zeroValue177
  t50 := Tryz.underlying43
  a50 := Tryz.isAgg43
  z50 := Tryz.sizeOf43
  v50 := Tryz.zeroValue43
  t53 := Tryz.underlying183
  a53 := Tryz.isAgg183
  z53 := Tryz.sizeOf183
  v53 := Tryz.zeroValue183
  t55 := Tryz.underlying185
  a55 := Tryz.isAgg185
  z55 := Tryz.sizeOf185
  v55 := Tryz.zeroValue185
  t66 := Tryz.underlying191
  a66 := Tryz.isAgg191
  z66 := Tryz.sizeOf191
  v66 := Tryz.zeroValue191
  t70 := Tryz.underlying195
  a70 := Tryz.isAgg195
  z70 := Tryz.sizeOf195
  v70 := Tryz.zeroValue195
  t76 := Tryz.underlying197
  a76 := Tryz.isAgg197
  z76 := Tryz.sizeOf197
  v76 := Tryz.zeroValue197
  t77 := Tryz.underlying62
  a77 := Tryz.isAgg62
  z77 := Tryz.sizeOf62
  v77 := Tryz.zeroValue62 }

/-- A text of the call's own, with its slice. -/
structure El (w : World) (B : Nat) where
  v : Value
  t : List Int
  h : w.ownsRow B 3 1 v t.length (t.map fun x => iv x)
  l : t.length ≤ 1000
instance (w : World) (B : Nat) : Inhabited (El w B) := ⟨⟨.slice none 0 0, [], ⟨by simp, .inl ⟨rfl, rfl⟩⟩, by simp⟩⟩
section
variable {w : World} {B blk off n : Nat} {d : Array (El w B)} {os : Array Obj}
theorem sort_heap : (sortWorld (fun x : El w B => x.v) w blk off n d os).os = w.os ∧ (sortWorld (fun x : El w B => x.v) w blk off n d os).tape = w.tape ∧ (sortWorld (fun x : El w B => x.v) w blk off n d os).output = w.output ∧
    w.heap.size ≤ (sortWorld (fun x : El w B => x.v) w blk off n d os).heap.size ∧ ∀ k, k < w.heap.size → k ≠ blk → (sortWorld (fun x : El w B => x.v) w blk off n d os).heap[k]? = w.heap[k]? := by
  refine ⟨rfl, rfl, rfl, ?_, fun k hk hne => ?_⟩
  · unfold sortWorld Go.Sort.grow Go.Sort.putRow Go.Sort.mapBlock
    simp [Go.Sort.ahead]
  · unfold sortWorld Go.Sort.grow Go.Sort.putRow Go.Sort.mapBlock
    simp only [Go.Sort.ahead]
    rw [Array.getElem?_append_left (by simpa using hk), Array.getElem?_modify, if_neg (Ne.symm hne)]
end
theorem els {w : World} {B : Nat} : ∀ (us : List Value) (fs : List (List Int)), us.length = fs.length → (∀ (i : Nat) (v : Value) (t : List Int), us[i]? = some v → fs[i]? = some t → w.ownsRow B 3 1 v t.length (t.map fun x => iv x)) → (∀ t ∈ fs, t.length ≤ 1000) →
    ∃ d : List (El w B), d.map (·.v) = us ∧ d.map (·.t) = fs
  | [], [], _, _, _ => ⟨[], rfl, rfl⟩
  | [], _ :: _, h, _, _ => by simp at h
  | _ :: _, [], h, _, _ => by simp at h
  | u :: us, t :: fs, h, he, hl => by
    obtain ⟨d, h1, h2⟩ := els us fs (by simpa using h) (fun i v t hv ht => he (i + 1) v t (by simpa using hv) (by simpa using ht)) (fun x hx => hl x (by simp [hx]))
    exact ⟨⟨u, t, he 0 u t rfl rfl, hl t (by simp)⟩ :: d, by simp [h1], by simp [h2]⟩
theorem swo_ord {w : World} {B : Nat} : Go.Sort.SWO (ltOf fun x y : El w B => ordI x.t y.t) where
  irrefl x := by
    unfold ltOf
    rw [decide_eq_false_iff_not, ordI_lt]
    exact ltT_irrefl _
  trans x y z h1 h2 := by
    unfold ltOf at *
    rw [decide_eq_true_iff, ordI_lt] at *
    exact ltT_trans h1 h2
  ntrans x y z h1 h2 := by
    unfold ltOf at *
    rw [decide_eq_false_iff_not, ordI_lt] at *
    intro h
    rcases ltT_total x.t y.t with h3 | h3 | h3
    · exact h1 h3
    · rw [h3] at h
      exact h2 h
    · exact h2 (ltT_trans h3 h)
theorem callFunc_ord (args : Array Value) (w : World) : (callFunc 92 args).run Tryz.prog w = .ok (.enter 92 args) w := by kernel_rfl
theorem rows_any {α : Type} {w : World} {v : Value} {sz : Nat} {cells : α → List Value} {l : List α} (h : RowsAt w v sz cells l) : RowsAny w v sz cells l := by
  obtain ⟨-, A, cap, h1, h2, h3, h4⟩ := h
  exact ⟨A, cap, h1, h2, h3, h4⟩
set_option maxHeartbeats 1000000 in
theorem sort_any (B gF : Nat) (fs : List (List Int)) (W : World) (hF : Fnd B gF W fs) (hl : ∀ t ∈ fs, t.length ≤ 1000) (hn : fs.length ≤ 20000) : ∃ vF, Box W gF 50 #[vF] ∧
    Calls Tryz.prog 91 #[vF, .func (.func 92) #[] #[]] W fun e w' => e = .returned (.tuple #[]) ∧ Box w' gF 50 #[vF] ∧ (∃ ps, TextsAny w' vF ps ∧ (ps.map (·.2)).Perm fs ∧ (ps.map (·.2)).Pairwise fun a b => ¬ ltT b a) ∧ AddK B gF W w' := by
  obtain ⟨vF, us, bF, oF, eF⟩ := hF
  refine ⟨vF, bF, ?_⟩
  rcases oF.2 with ⟨rfl, h0⟩ | ⟨g, cap, cur, rfl, hb, hg, hc, hm, hsz, htk⟩
  · obtain rfl := List.eq_nil_of_length_eq_zero h0
    have h := AnyF.slices_SortFunc_none (P := Tryz.prog) (ρ := renF) { laysF with } none 0 (.func (.func 92) #[] #[]) W
    refine Calls.mono h ?_
    rintro e w' ⟨rfl, rfl⟩
    exact ⟨rfl, bF, ⟨[], ⟨⟨_, _, rfl, by simp, by simp, fun h => absurd rfl h⟩, fun p hp => by cases hp⟩, by simp, by simp⟩, AddK.refl _⟩
  · have hlu : us.length = fs.length := by have := oF.1; omega
    obtain ⟨d, hdv, hdt⟩ := els us fs hlu eF hl
    have hdl : d.length = fs.length := by rw [← hdt, List.length_map]
    have hgF : gF ≠ g := fun e => by
      subst e
      rw [show W.heap[gF]? = _ from bF] at hg
      cases hg
    have hglt : g < W.heap.size := (Array.getElem?_eq_some_iff.1 hg).1
    have same : ∀ {n : Nat} {d' : Array (El W B)} {os : Array Obj} (x : El W B), (sortWorld (fun x : El W B => x.v) W g 0 n d' os).ownsRow B 3 1 x.v x.t.length (x.t.map fun x => iv x) := fun x => by
      refine ⟨x.h.1, ?_⟩
      rcases x.h.2 with hn | ⟨q, cap', cur', h1, h2, h3, rest⟩
      · exact .inl hn
      · refine .inr ⟨q, cap', cur', h1, h2, (sort_heap.2.2.2.2 q (Array.getElem?_eq_some_iff.1 h3).1 fun e => ?_).trans h3, rest⟩
        subst e
        rw [hg] at h3
        cases h3
    have hcell : ∀ (j : Nat) (x : El W B), d[j]? = some x → cur[j]? = some x.v := fun j x hx => by
      have h1 : us[j]? = some x.v := by rw [← hdv, List.getElem?_map, hx]; rfl
      rw [← htk, List.getElem?_take] at h1
      split at h1
      · simpa using h1
      · cases h1
    have hH : Go.Sort.Holds (fun x : El W B => x.v) W g 0 d.toArray := fun j hj => by
      have hj' : j < d.length := by simpa using hj
      refine ⟨?_, by simp [World.frozen?, hg]⟩
      have h1 := hcell j d[j] (List.getElem?_eq_getElem hj')
      rw [Nat.zero_add]
      simp only [World.cell?, hg, Option.isSome_none, Bool.false_eq_true, if_false, h1]
      congr 1
      rw [getElem!_pos d.toArray j hj]
      simp
    have hcmp : CmpLays1 Tryz.prog 92 #[] (fun x : El W B => x.v) (fun x y => ordI x.t y.t) g 0 d.toArray.size W := fun m os dk hs x y => by
      have h := inOrder_eq x.v y.v x.t y.t (sortWorld (fun x : El W B => x.v) W g 0 m dk os) (text_rows (same x) x.l) (text_rows (same y) y.l)
      have h2 : Calls Tryz.prog 92 (#[x.v, y.v] ++ #[]) (sortWorld (fun x : El W B => x.v) W g 0 m dk os) fun e w' => e = .returned (iv (ordI x.t y.t)) ∧ ∃ o, w' = (sortWorld (fun x : El W B => x.v) W g 0 m dk os).alloc o := by simpa using h
      refine Calls.mono h2 ?_
      rintro e w' ⟨rfl, o, rfl⟩
      exact ⟨rfl, 0, #[o], Go.Sort.alloc_eq_grow _ _⟩
    have h := Any.slices_SortFunc (P := Tryz.prog) (ρ := renF) laysF (fun x : El W B => x.v) (fun x => by
      obtain ⟨A, m, p, hv⟩ := own_form x.h
      show x.v.oneCell' = true
      rw [hv]
      rfl) (fun x y => ordI x.t y.t) swo_ord 92 #[] g 0 cap d.toArray W callFunc_ord hcmp hH hglt (by simp; omega)
    have h' : Calls Tryz.prog 91 #[.slice (some ⟨g, 0, none⟩) fs.length cap, .func (.func 92) #[] #[]] W fun e w' =>
      e = .returned (.tuple #[]) ∧ ∃ d' n os, Go.Sort.PermIn 0 d.toArray.size d.toArray d' ∧ Go.Sort.SortedIn (ltOf fun x y : El W B => ordI x.t y.t) 0 d.toArray.size d' ∧ w' = sortWorld (fun x : El W B => x.v) W g 0 n d' os := by
      have e : d.toArray.size = fs.length := by simpa using hdl
      rw [← e]
      exact h
    refine Calls.mono h' ?_
    rintro e w' ⟨rfl, d', n, os, hp, hs, rfl⟩
    have hs1 : d'.size = d.length := by have := hp.1; simpa using this
    have hd9 : d'.toList.length = fs.length := by rw [Array.length_toList, hs1]; exact hdl
    have hst := sort_heap (w := W) (B := B) (blk := g) (off := 0) (n := n) (d := d') (os := os)
    have hH' := holds_sortWorld (fun x : El W B => x.v) W g 0 n d.toArray d' os hglt hH hp.1
    have hpm : d'.toList.Perm d := by
      have h3 := hp.2.2
      have e1 : (d'.extract 0 d.toArray.size).toList = d'.toList := by
        rw [Array.toList_extract]
        simp
        exact List.take_of_length_le (by simp [hs1])
      have e2 : (d.toArray.extract 0 d.toArray.size).toList = d := by
        rw [Array.toList_extract]
        simp
      rwa [e1, e2] at h3
    refine ⟨rfl, (hst.2.2.2.2 gF bF.lt hgF).trans bF, ⟨d'.toList.map fun x => (x.v, x.t), ⟨⟨some ⟨g, 0, none⟩, cap, ?_, ?_, ?_, fun _ => ⟨g, 0, rfl, Nat.lt_of_lt_of_le hglt hst.2.2.2.1, fun i p hq j u hu => ?_⟩⟩, fun p hq => ?_⟩, ?_, ?_⟩, ⟨hst.1, hst.2.1, hst.2.2.1, hst.2.2.2.1, fun k o ho h1 h2 => (hst.2.2.2.2 k (Array.getElem?_eq_some_iff.1 ho).1 fun e => ?_).trans ho⟩⟩
    · rw [List.length_map, hd9]
    · rw [List.length_map, hd9]
      exact hc
    · simp only [maxLen] at hm
      omega
    · rw [List.getElem?_map, Option.map_eq_some_iff] at hq
      obtain ⟨x, hx, rfl⟩ := hq
      have hi : i < d'.size := by
        have := (List.getElem?_eq_some_iff.1 hx).1
        simpa using this
      have hx' : d'[i]! = x := by
        rw [getElem!_pos d' i hi]
        have := (List.getElem?_eq_some_iff.1 hx).2
        simpa using this
      have h3 := (hH' i hi).1
      rw [hx'] at h3
      rcases j with _ | j
      · obtain rfl : x.v = u := by simpa [pc] using hu
        simpa using h3
      · simp [pc] at hu
    · obtain ⟨x, _, rfl⟩ := List.mem_map.1 hq
      exact rows_any (text_rows (same x) x.l)
    · rw [List.map_map, ← hdt]
      exact hpm.map _
    · rw [List.map_map, List.pairwise_map, List.pairwise_iff_getElem]
      intro i j hi hj hij
      have hj' : j < d'.size := by simpa using hj
      have hi' : i < d'.size := by simpa using hi
      have h3 := hs i j (Nat.zero_le _) hij (by simp; omega)
      unfold ltOf at h3
      rw [decide_eq_false_iff_not, ordI_lt, getElem!_pos d' i hi', getElem!_pos d' j hj'] at h3
      simpa using h3
    · subst e
      rw [hg] at ho
      cases ho
      exact h2 hb cur (0, 0) rfl
end Go.Proofs.YtonekgefegfapaaGreat
