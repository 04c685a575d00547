/-
  slices.Delete of one letter; post: Take and Lose: a letter waits no longer.
-/
import Derived.Test.YtlhobncpifklkaaPAdd
import Derived.Lib.SliceRun
namespace Go.Proofs.Ytlhobncpifklkaa
open Go.RowKit Go.Lib

theorem zero35 (w : World) : (zeroValue 88).run Try.prog w = .ok (.agg #[.int .i64 0, .int .i64 0, .int .i64 0, .string ⟨#[]⟩]) w := by kernel_rfl
/-- clear of one letter. -/
theorem clear_one (w : World) (ty : TypeId) (b o c : Nat) (hc : ∀ j, j < 4 → (w.cell? ⟨b, o + j, none⟩).isSome = true) (hf : ∀ j, j < 4 → w.frozen? ⟨b, o + j, none⟩ = false) :
    (Builtin.clear_ #[82] ty #[.slice (some ⟨b, o, none⟩) 1 c]).run Try.prog w = .ok (.tuple #[]) (w.setCells b o [.int .i64 0, .int .i64 0, .int .i64 0, .string ⟨#[]⟩]) := by
  have hst := run_storeCells_cells (P := Try.prog) b o [.int .i64 0, .int .i64 0, .int .i64 0, .string ⟨#[]⟩] 0 w (by simpa using hc) (by simpa using hf) (by intro v hv; simp at hv; rcases hv with rfl | rfl <;> rfl)
  simp only [Nat.add_zero] at hst
  have hz : (Builtin.zeroCells (Value.agg #[.int .i64 0, .int .i64 0, .int .i64 0, .string ⟨#[]⟩]).cells 1).toList = [.int .i64 0, .int .i64 0, .int .i64 0, .string ⟨#[]⟩] := by simp [Builtin.zeroCells, Value.cells, List.range_succ]
  have hv := zero35 w
  simp [Builtin.clear_, run_underlying Try.underlying82, hv, hz, hst]

theorem setCells_heap (g : Nat) (e : TypeId) (fr : Nat × Nat) : ∀ (vs : List Value) (o : Nat) (w : World) (cur : Array Value), w.heap[g]? = some (.cells cur e fr) → o + vs.length ≤ cur.size →
    (w.setCells g o vs).heap[g]? = some (.cells (cur.toList.take o ++ vs ++ cur.toList.drop (o + vs.length)).toArray e fr)
  | [], o, w, cur, h, _ => by
    simp only [World.setCells, List.length_nil, Nat.add_zero, List.append_nil, List.take_append_drop]
    exact h
  | v :: r, o, w, cur, h, hl => by
    simp only [List.length_cons] at hl
    have h1 : (w.setCell ⟨g, o, none⟩ v).heap[g]? = some (.cells (cur.setIfInBounds o v) e fr) := by simp [World.setCell, Array.getElem?_modify, h]
    have h2 := setCells_heap g e fr r (o + 1) _ _ h1 (by simp; omega)
    rw [World.setCells, h2]
    have ho : o < cur.toList.length := by simp; omega
    have e1 : (cur.setIfInBounds o v).toList = cur.toList.set o v := by simp
    rw [e1, List.take_set, List.drop_set]
    have e2 : (cur.toList.take (o + 1)).set o v = cur.toList.take o ++ [v] := by
      have hlo : (cur.toList.take o).length = o := by rw [List.length_take]; omega
      rw [List.take_succ_eq_append_getElem ho, List.set_append_right _ _ (by omega), hlo, Nat.sub_self]
      rfl
    rw [if_pos (by omega), e2]
    simp only [List.length_cons, List.append_assoc, List.singleton_append]
    rw [show o + 1 + r.length = o + (r.length + 1) from by omega]
theorem setCells_grown (g : Nat) : ∀ (vs : List Value) (o : Nat) (w : World), w.grownBy (w.setCells g o vs) (some g)
  | [], _, w => grown_refl w _
  | v :: r, o, w => by
    have h1 : w.grownBy (w.setCell ⟨g, o, none⟩ v) (some g) := ⟨rfl, rfl, rfl, by simp [World.setCell], fun k _ hne => Below.heap_setCell _ _ _ _ (fun e => hne (by rw [e]))⟩
    exact grown_trans h1 (setCells_grown g r (o + 1) _)
theorem delete_end {w : World} {base g cap i n : Nat} {ls : List Po.Lt} {cur : Array Value} (hn : ls.length = n) (hi : i < n) (hbg : base ≤ g) (hb : w.heap[g]? = some (.cells cur 88 (0, 0))) (hnc : n ≤ cap) (hcm : cap ≤ maxLen) (hcs : cur.size = cap * 4) (ht : cur.toList.take (n * 4) = Po.cells ls) (z : List Value) (hz : z.length = 4) :
    ((w.drew.setCells g (i * 4) (Po.cells (ls.drop (i + 1)))).setCells g ((n - 1) * 4) z).ownsRow base 88 4 (.slice (some ⟨g, 0, none⟩) (n - 1) cap) (n - 1) (Po.cells (ls.take i ++ ls.drop (i + 1))) ∧
      w.grownBy ((w.drew.setCells g (i * 4) (Po.cells (ls.drop (i + 1)))).setCells g ((n - 1) * 4) z) (some g) := by
  have hl : (Po.cells (ls.drop (i + 1))).length = (n - (i + 1)) * 4 := by rw [Po.cells_length]; simp [hn]
  have h1 := setCells_heap g 88 (0, 0) (Po.cells (ls.drop (i + 1))) (i * 4) w.drew cur hb (by omega)
  have hsz1 : (cur.toList.take (i * 4) ++ Po.cells (ls.drop (i + 1)) ++ cur.toList.drop (i * 4 + (Po.cells (ls.drop (i + 1))).length)).toArray.size = cur.size := by
    simp
    omega
  have h2 := setCells_heap g 88 (0, 0) z ((n - 1) * 4) _ _ h1 (by rw [hsz1]; omega)
  have hti : cur.toList.take (i * 4) = Po.cells (ls.take i) := by
    rw [← Po.cells_take, ← ht, List.take_take]
    congr 1
    omega
  have e : Po.cells (ls.take i ++ ls.drop (i + 1)) = cur.toList.take (i * 4) ++ Po.cells (ls.drop (i + 1)) := by rw [Po.cells_append, hti]
  have hle : (cur.toList.take (i * 4) ++ Po.cells (ls.drop (i + 1))).length = (n - 1) * 4 := by
    rw [List.length_append, hl, hti, Po.cells_length, List.length_take]
    omega
  refine ⟨⟨by rw [e, hle], .inr ⟨g, cap, _, rfl, hbg, h2, by omega, hcm, ?_, ?_⟩⟩, ?_⟩
  · rw [List.size_toArray, List.length_append, List.length_append, List.length_take, List.length_drop, hz, Array.length_toList, hsz1]
    omega
  · rw [e]
    simp only
    have ht1 : (cur.toList.take (i * 4) ++ Po.cells (ls.drop (i + 1)) ++ cur.toList.drop (i * 4 + (Po.cells (ls.drop (i + 1))).length)).take ((n - 1) * 4) = cur.toList.take (i * 4) ++ Po.cells (ls.drop (i + 1)) := by
      rw [← hle]
      exact List.take_left
    rw [ht1, List.append_assoc, ← hle]
    exact List.take_left
  · have g1 := setCells_grown g (Po.cells (ls.drop (i + 1))) (i * 4) w.drew
    have g2 := grown_trans g1 (setCells_grown g z ((n - 1) * 4) _)
    exact ⟨g2.os, g2.tape, g2.output, g2.size, g2.block⟩

set_option maxHeartbeats 4000000 in
set_option maxRecDepth 1000000 in
theorem delete_any {base g cap i : Nat} {ls : List Po.Lt} (w : World) (h : w.ownsRow base 88 4 (.slice (some ⟨g, 0, none⟩) ls.length cap) ls.length (Po.cells ls)) (hi : i < ls.length) :
    Calls Try.prog 51 #[.slice (some ⟨g, 0, none⟩) ls.length cap, .int .i64 i, .int .i64 (i + 1)] w fun e w' => e = .returned (.slice (some ⟨g, 0, none⟩) (ls.length - 1) cap) ∧ w'.ownsRow base 88 4 (.slice (some ⟨g, 0, none⟩) (ls.length - 1) cap) (ls.length - 1) (Po.cells (ls.take i ++ ls.drop (i + 1))) ∧ w.grownBy w' (some g) := by
  obtain ⟨n, hn⟩ : ∃ n, ls.length = n := ⟨_, rfl⟩
  rw [hn] at h hi ⊢
  rcases h.2 with ⟨hv, _⟩ | ⟨g', cap', cur, hv, hbg, hb, hnc, hcm, hcs, htake⟩
  · cases hv
  cases hv
  unfold maxLen at hcm
  obtain ⟨i0, hi0, hz0, hz1, hz2⟩ := info_parts info35
  have hii : (i : Int) + 1 ≤ (n : Int) := by omega
  have hcI : (n : Int) ≤ (cap : Int) := by omega
  have HE : Hid (((w.drew.setCells g (i * 4) (Po.cells (ls.drop (i + 1)))).setCells g ((n - 1) * 4) [.int .i64 0, .int .i64 0, .int .i64 0, .string ⟨#[]⟩]).ownsRow base 88 4 (.slice (some ⟨g, 0, none⟩) (n - 1) cap) (n - 1) (Po.cells (ls.take i ++ ls.drop (i + 1))) ∧
      w.grownBy ((w.drew.setCells g (i * 4) (Po.cells (ls.drop (i + 1)))).setCells g ((n - 1) * 4) [.int .i64 0, .int .i64 0, .int .i64 0, .string ⟨#[]⟩]) (some g)) := delete_end hn hi hbg hb hnc (by unfold maxLen; exact hcm) hcs htake _ rfl
  obtain ⟨news, hnews⟩ : ∃ news, news = Po.cells (ls.drop (i + 1)) := ⟨_, rfl⟩
  have hlen : news.length = (n - (i + 1)) * 4 := by rw [hnews, Po.cells_length]; simp [hn]
  have hcellAll : ∀ t, t < cap * 4 → (w.cell? ⟨g, t, none⟩).isSome = true ∧ w.frozen? ⟨g, t, none⟩ = false := fun t ht => by
    constructor
    · simp [World.cell?, hb]; omega
    · simp [World.frozen?, hb]
  have hnewsAt : ∀ t u, news[t]? = some u → w.cell? ⟨g, (i + 1) * 4 + t, none⟩ = some u := fun t u hu => by
    have h1 : (Po.cells ls)[(i + 1) * 4 + t]? = some u := by
      rw [hnews, ← Po.cells_drop, List.getElem?_drop] at hu
      exact hu
    have := h.cells (g := g) rfl _ _ h1
    rw [Go.WideShapes.add_plain, Nat.zero_add] at this
    exact this
  obtain ⟨A, hA, hsrc⟩ : ∃ A : Addr, (if cap = i + 1 then some (⟨g, 0, none⟩ : Addr) else some ⟨g, (i + 1) * 4, none⟩) = some A ∧ Hid (∀ t u, news[t]? = some u → w.drew.cell? (A.add t) = some u) := by
    by_cases hc : cap = i + 1
    · refine ⟨⟨g, 0, none⟩, by simp [hc], fun t u hu => ?_⟩
      have h0 : news.length = 0 := by rw [hlen]; omega
      rw [List.length_eq_zero_iff.1 h0] at hu
      simp at hu
    · refine ⟨⟨g, (i + 1) * 4, none⟩, by simp [hc], fun t u hu => ?_⟩
      rw [Go.WideShapes.add_plain]
      exact hnewsAt t u hu
  have s1 : Hid (news.length = (n - (i + 1)) * 4) := hlen
  have s2 : Hid (∀ u ∈ news, u.oneCell' = true) := by rw [hnews]; exact Po.cells_one' _
  have s3 : Hid (∀ t, t < news.length → (w.drew.cell? ⟨g, 0 + i * 4 + t, none⟩).isSome = true ∧ w.drew.frozen? ⟨g, 0 + i * 4 + t, none⟩ = false) := fun t ht => by
    rw [hlen] at ht
    exact hcellAll _ (by omega)
  obtain ⟨W1, hW1⟩ : ∃ W1, W1 = w.drew.setCells g (i * 4) news := ⟨_, rfl⟩
  have hcl : ∀ ty, (Builtin.clear_ #[82] ty #[.slice (some ⟨g, (i + (n - (i + 1))) * 4, none⟩) (n - (i + (n - (i + 1)))) (cap - (i + (n - (i + 1))))]).run Try.prog W1 = .ok (.tuple #[]) (W1.setCells g ((n - 1) * 4) [.int .i64 0, .int .i64 0, .int .i64 0, .string ⟨#[]⟩]) := fun ty => by
    rw [show n - (i + (n - (i + 1))) = 1 by omega, show i + (n - (i + 1)) = n - 1 by omega]
    have h1 := setCells_heap g 88 (0, 0) news (i * 4) w.drew cur hb (by rw [hlen]; omega)
    rw [← hW1] at h1
    refine clear_one W1 ty g ((n - 1) * 4) _ (fun j hj => ?_) (fun j hj => ?_)
    · simp only [World.cell?, h1]
      simp
      omega
    · simp [World.frozen?, h1]
  rw [← hnews, ← hW1] at HE
  have HW : Hid (W1 = w.drew.setCells g (i * 4) news) := hW1
  have hic : i ≤ cap := by omega
  have hjc : i + 1 ≤ cap := by omega
  have hj0 : (0 : Int) ≤ (i : Int) + 1 := by omega
  clear hW1 hnews hlen hcellAll hnewsAt h hb hcs htake
  go_enter Try.func51, Try.ntmps51
  go_wp2_with fail
  go_region_law (refine step_append_room rfl (.tmp 22) (.tmp 25) 82 rfl 88 i0 4 Try.underlying82 hi0 hz1 g 0 i cap (by simp [Act.eval, Act.put]) A (n - (i + 1)) (cap - (i + 1)) news (by simp [Act.eval, Act.put]) s1.out hsrc.out s2.out (by omega) s3.out ?_; rw [Nat.zero_add, ← HW.out])
  have hmc : i + (n - (i + 1)) ≤ cap := by omega
  have hmn : i + (n - (i + 1)) ≤ n := by omega
  have hne : ¬ (cap = i + (n - (i + 1))) := by omega
  go_wp2
  go_ret
  refine ⟨by rw [show n - 1 = i + (n - (i + 1)) by omega]; rfl, HE.out⟩

namespace Po
def takeTo (ls : List Lt) (n : Int) : List Lt := drop ls n
theorem drop_none {ls : List Lt} {n : Int} (h : get ls n = none) : drop ls n = ls := by
  unfold drop
  refine List.filter_eq_self.2 fun x hx => ?_
  simpa using get_none.1 h x hx
end Po

set_option maxHeartbeats 1000000 in
set_option maxRecDepth 100000 in
theorem take_nil (n : Int) (w : World) : Calls Try.prog 34 #[.pointer none, .int .i64 n] w fun e w' => e = .returned (.tuple #[letter Po.d0, .int .i64 6]) ∧ w.grownBy w' none := by
  go_enter Try.func34, Try.ntmps34
  go_wp2_with fail
  refine (find_nil n _).mono ?_
  rintro e w2 ⟨rfl, hg⟩
  have hA : w2.heap[w.heap.size]? = some Z4 := (hg.block w.heap.size (by simp) (by simp)).trans (heap_alloc_new _ _)
  obtain ⟨⟨a0, a1, a2, a3⟩, af⟩ := four_of hA
  have HG : Hid (w.grownBy w2 none) := grown_trans (World.grownBy_alloc _ _ _) hg
  clear hg hA
  go_wp2
  (try simp only [Exit.inBlock, Exit.then])
  refine bodyPost_ret (v := .tuple #[letter Po.d0, .int .i64 6]) ?_ rfl ⟨rfl, ?_⟩
  · rw [results_cell_tmp rfl]
    unfold letter
    go_simp
  · exact grown_set (grown_set (grown_set (grown_set HG.out (Nat.le_refl _) _) (Nat.le_refl _) _) (Nat.le_refl _) _) (Nat.le_refl _) _

set_option maxHeartbeats 1000000 in
set_option maxRecDepth 100000 in
theorem take_none {s : Nat} {nodes last : Int} {v : Value} {ls : List Po.Lt} (n : Int) (w : World) (h : PostAt w s nodes last v ls) (hg : Po.get ls n = none) : Calls Try.prog 34 #[.pointer (some ⟨s, 0, none⟩), .int .i64 n] w fun e w' => e = .returned (.tuple #[letter Po.d0, .int .i64 6]) ∧ w.grownBy w' none := by
  have HP : Hid (PostAt w s nodes last v ls) := h
  have HN : Hid (Po.get ls n = none) := hg
  clear h hg
  go_enter Try.func34, Try.ntmps34
  go_wp2_with fail
  refine (find_any n _ (HP.out.still (World.grownBy_alloc _ _ _))).mono ?_
  rintro e w2 ⟨rfl, hg⟩
  rw [HN.out]
  have hA : w2.heap[w.heap.size]? = some Z4 := (hg.block w.heap.size (by simp) (by simp)).trans (heap_alloc_new _ _)
  obtain ⟨⟨a0, a1, a2, a3⟩, af⟩ := four_of hA
  have HG : Hid (w.grownBy w2 none) := grown_trans (World.grownBy_alloc _ _ _) hg
  clear hg hA
  go_wp2
  (try simp only [Exit.inBlock, Exit.then])
  refine bodyPost_ret (v := .tuple #[letter Po.d0, .int .i64 6]) ?_ rfl ⟨rfl, ?_⟩
  · rw [results_cell_tmp rfl]
    unfold letter
    go_simp
  · exact grown_set (grown_set (grown_set (grown_set HG.out (Nat.le_refl _) _) (Nat.le_refl _) _) (Nat.le_refl _) _) (Nat.le_refl _) _

theorem turns_set {w W : World} {s : Nat} {v : Value} (h : Turns w W s v) {a : Addr} (ha : w.heap.size ≤ a.block ∨ a.block = s) (u : Value) : Turns w (W.setCell a u) s v :=
  ⟨h.os, h.tape, h.output, by rw [show (W.setCell a u).heap.size = W.heap.size by simp [World.setCell]]; exact h.size, fun k hk hs hv => (Below.heap_setCell _ _ _ _ (by omega)).trans (h.block k hk hs hv)⟩
theorem post_set {W : World} {s : Nat} {nodes last : Int} {v : Value} {ls : List Po.Lt} (h : PostAt W s nodes last v ls) {a : Addr} (h1 : a.block ≠ s) (h2 : some a.block ≠ v.ownBlock) (u : Value) : PostAt (W.setCell a u) s nodes last v ls := by
  have hg : W.grownBy (W.setCell a u) (some a.block) := ⟨rfl, rfl, rfl, by simp [World.setCell], fun k _ hne => Below.heap_setCell _ _ _ _ (fun e => hne (by rw [e]))⟩
  exact h.kept hg (by simpa using h1.symm) (.inr h2.symm)

set_option maxHeartbeats 1000000 in
set_option maxRecDepth 100000 in
theorem take_some {s : Nat} {nodes last : Int} {v : Value} {ls : List Po.Lt} {x : Po.Lt} (n : Int) (w : World) (h : PostAt w s nodes last v ls) (hg : Po.get ls n = some x) :
    Calls Try.prog 34 #[.pointer (some ⟨s, 0, none⟩), .int .i64 n] w fun e w' => ∃ v', e = .returned (.tuple #[letter x, .int .i64 0]) ∧ PostAt w' s nodes last v' (Po.drop ls n) ∧ Turns w w' s v ∧ Moves w v v' := by
  have HP : Hid (PostAt w s nodes last v ls) := h
  obtain ⟨hlt, hgd⟩ := Po.pos_get h.good.sorted hg
  have HN : Hid ((Po.get ls n).isSome = true) := by rw [hg]; exact rfl
  have HD : Hid (Po.drop ls n = ls.take (Po.pos ls n) ++ ls.drop (Po.pos ls n + 1)) := Po.drop_eq h.good.sorted hg
  have HDL : Hid ((Po.drop ls n).length = ls.length - 1) := by
    have h1 := Po.drop_length h.good.sorted hg
    have : (Po.drop ls n).length = ls.length - 1 := by omega
    exact this
  clear hg
  rcases h.row.2 with ⟨_, h0⟩ | ⟨g, cap, cur, rfl, hsg, hgb, _⟩
  · omega
  have hgw : g < w.heap.size := (Array.getElem?_eq_some_iff.1 hgb).1
  have hsw := h.lt
  clear h hgb
  go_enter Try.func34, Try.ntmps34
  go_wp2_with fail
  refine (find_any n _ (HP.out.still (World.grownBy_alloc _ _ _))).mono ?_
  rintro e w2 ⟨rfl, hg⟩
  rw [HN.out]
  have hA : w2.heap[w.heap.size]? = some Z4 := (hg.block w.heap.size (by simp) (by simp)).trans (heap_alloc_new _ _)
  have hgw2 := grown_trans (World.grownBy_alloc w Z4 none) hg
  have hp2 := HP.out.still hgw2
  have HG : Hid (w.grownBy w2 none) := hgw2
  obtain ⟨_, _, c2⟩ := hp2.cells
  obtain ⟨r0, r1, r2, r3⟩ := row_at hp2.row hlt
  rw [hgd] at r0 r1 r2 r3
  have HA : Hid (w2.heap[w.heap.size]? = some Z4) := hA
  have HP2 : Hid (PostAt w2 s nodes last (.slice (some ⟨g, 0, none⟩) ls.length cap) ls) := hp2
  have hsz2 : w.heap.size < w2.heap.size := (Array.getElem?_eq_some_iff.1 hA).1
  generalize hpos : Po.pos ls n = k at *
  clear hpos
  have HLT : Hid (k < ls.length) := hlt
  obtain ⟨m, hm⟩ : ∃ m, ls.length = m := ⟨_, rfl⟩
  have HM : Hid (ls.length = m) := hm
  rw [hm] at c2 hlt
  have hkI : (k : Int) < (m : Int) := by omega
  have hk0 : (0 : Int) ≤ (k : Int) := by omega
  have hsw2 : s < w2.heap.size := by omega
  have hk2 : (k : Int) < 2048 := by have := HP.out.good.len; omega
  obtain ⟨x0, x1, x2, x3⟩ := x
  simp only at r0 r1 r2 r3
  clear hg hA hgw2 hp2 hm hgd
  go_wp2_with fail
  have hga := World.grownBy_alloc w2 (.cells #[.int .i64 x0, .int .i64 x1, .int .i64 x2, .string x3] 88) none
  have hp3 := HP2.out.still hga
  have hdel := delete_any (i := k) _ hp3.row HLT.out
  rw [HM.out] at hdel
  refine hdel.mono ?_
  rintro e w3 ⟨rfl, hrow3, hg3⟩
  have hbB : w3.heap[w2.heap.size]? = some (.cells #[.int .i64 x0, .int .i64 x1, .int .i64 x2, .string x3] 88 (0, 0)) := (hg3.block w2.heap.size (by simp) (by simp; omega)).trans (heap_alloc_new _ _)
  have hbA : w3.heap[w.heap.size]? = some Z4 := (hg3.block w.heap.size (by simp; omega) (by simp; omega)).trans ((hga.block w.heap.size hsz2 (by simp)).trans HA.out)
  have hbS := (hg3.block s hp3.lt (by simp; omega)).trans hp3.block
  obtain ⟨⟨b0, b1, b2, b3⟩, _⟩ := four_of hbB
  obtain ⟨⟨a0, a1, a2, a3⟩, af⟩ := four_of hbA
  have cs2 : w3.cell? ⟨s, 2, none⟩ = some (.slice (some ⟨g, 0, none⟩) ls.length cap) := by simp [World.cell?, hbS]
  have fs2 : w3.frozen? ⟨s, 2, none⟩ = false := by simp [World.frozen?, hbS]
  have HE : Hid (PostAt (w3.setCell ⟨s, 2, none⟩ (.slice (some ⟨g, 0, none⟩) (m - 1) cap)) s nodes last (.slice (some ⟨g, 0, none⟩) (m - 1) cap) (Po.drop ls n) ∧ Turns w (w3.setCell ⟨s, 2, none⟩ (.slice (some ⟨g, 0, none⟩) (m - 1) cap)) s (.slice (some ⟨g, 0, none⟩) ls.length cap)) := by
    refine ⟨⟨?_, ?_, HP.out.good.drop n⟩, turns_set ?_ (.inr rfl) _⟩
    · simp [World.setCell, Array.getElem?_modify, hbS]
    · rw [HDL.out, HD.out, HM.out]
      exact owns_set hrow3 2 _ rfl
    · have h1 := grown_trans HG.out hga
      exact ⟨hg3.os.trans h1.os, hg3.tape.trans h1.tape, hg3.output.trans h1.output, Nat.le_trans h1.size hg3.size, fun j hj _ hv => (hg3.block j (Nat.lt_of_lt_of_le hj h1.size) (by simpa [Value.ownBlock] using hv)).trans (h1.block j hj (by simp))⟩
  have hnA : ¬ (w.heap.size = s) := by omega
  have hnB : ¬ (w2.heap.size = s) := by omega
  have hsz3 : w.heap.size < w3.heap.size := (Array.getElem?_eq_some_iff.1 hbA).1
  clear hrow3 hg3 hga hp3 hdel hbB hbA hbS r0 r1 r2 r3 c2
  go_wp2
  (try simp only [Exit.inBlock, Exit.then])
  refine bodyPost_ret (v := .tuple #[letter (x0, x1, x2, x3), .int .i64 0]) ?_ rfl ⟨.slice (some ⟨g, 0, none⟩) (m - 1) cap, rfl, ?_, ?_, .inl rfl⟩
  · rw [results_cell_tmp rfl]
    unfold letter
    go_simp
  · have p1 : w.heap.size ≠ s := hnA
    have p2 : some w.heap.size ≠ (Value.slice (some ⟨g, 0, none⟩) (m - 1) cap).ownBlock := by simp [Value.ownBlock]; omega
    exact post_set (a := ⟨w.heap.size, _, none⟩) (post_set (a := ⟨w.heap.size, _, none⟩) (post_set (a := ⟨w.heap.size, _, none⟩) (post_set (a := ⟨w.heap.size, _, none⟩) HE.out.1 p1 p2 _) p1 p2 _) p1 p2 _) p1 p2 _
  · exact turns_set (turns_set (turns_set (turns_set HE.out.2 (.inl (Nat.le_refl _)) _) (.inl (Nat.le_refl _)) _) (.inl (Nat.le_refl _)) _) (.inl (Nat.le_refl _)) _
/-- Take, at any post. -/
theorem take_any {s : Nat} {nodes last : Int} {v : Value} {ls : List Po.Lt} (n : Int) (w : World) (h : PostAt w s nodes last v ls) :
    Calls Try.prog 34 #[.pointer (some ⟨s, 0, none⟩), .int .i64 n] w fun e w' => ∃ v', e = .returned (.tuple #[letter ((Po.get ls n).getD Po.d0), .int .i64 (seeErr (Po.get ls n))]) ∧ PostAt w' s nodes last v' (Po.drop ls n) ∧ Turns w w' s v ∧ Moves w v v' := by
  cases hg : Po.get ls n with
  | none =>
    rw [Po.drop_none hg]
    exact (take_none n w h hg).mono fun _ _ ⟨he, hg⟩ => ⟨v, he, h.still hg, .of_grown hg, .refl _ _⟩
  | some x => exact take_some n w h hg

theorem lose_nil (n : Int) (w : World) : Calls Try.prog 38 #[.pointer none, .int .i64 n] w fun e w' => e = .returned (.int .i64 6) ∧ w.grownBy w' none := by
  go_enter Try.func38, Try.ntmps38
  go_wp2_with fail
  refine (take_nil n _).mono ?_
  rintro e w1 ⟨rfl, hg⟩
  have HG : Hid (w.grownBy w1 none) := hg
  clear hg
  unfold letter
  go_wp2
  go_ret
  exact ⟨rfl, grown_trans HG.out (World.grownBy_alloc _ _ _)⟩
end Go.Proofs.Ytlhobncpifklkaa
