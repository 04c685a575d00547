/-
  TallyOrder's list of bids that are kept: plain words, and its row in memory; the document's Better.
-/
import Derived.Test.YtdcknokggjbebaaYTT
namespace Go.Proofs.Ytdcknokggjbebaa
open Go.ChangeShapes Go.WideShapes Go.ChangeAt Go.RowKit Go.Deep
namespace Ty
def swap (x k : Bd) : Bd := if k.1 = x.1 then x else k
def repl (l : List Bd) (x : Bd) (j : Nat) : List Bd := (l.take j).map (swap x) ++ l.drop j
theorem repl_zero (l : List Bd) (x : Bd) : repl l x 0 = l := by simp [repl]
theorem repl_all (l : List Bd) (x : Bd) : repl l x l.length = l.map (swap x) := by simp [repl]
theorem repl_len (l : List Bd) (x : Bd) (j : Nat) : (repl l x j).length = l.length := by
  simp [repl]
  omega
theorem repl_at {l : List Bd} {x k : Bd} {j : Nat} (h : l[j]? = some k) : (repl l x j)[j]? = some k ∧ repl l x (j + 1) = (repl l x j).set j (swap x k) := by
  have hlt := (List.getElem?_eq_some_iff.1 h).1
  have e1 : l.drop j = k :: l.drop (j + 1) := by rw [List.drop_eq_getElem_cons hlt, (List.getElem?_eq_some_iff.1 h).2]
  have e2 : l.take (j + 1) = l.take j ++ [k] := by rw [List.take_add_one, h]; rfl
  have hl : ((l.take j).map (swap x)).length = j := by simp; omega
  unfold repl
  rw [e1, e2]
  constructor
  · rw [List.getElem?_append_right (by omega), hl, Nat.sub_self]
    rfl
  · rw [List.set_append_right _ _ (by omega), hl, Nat.sub_self, List.set_cons_zero, List.map_append]
    simp
theorem swap_key (x k : Bd) : (swap x k).1 = k.1 := by
  unfold swap
  split
  · rename_i h; exact h.symm
  · rfl
theorem map_perm {l L : List Bd} {x : Bd} (hp : l.Perm L) (hi : Inc L) (hh : has L x.1 = true) : (l.map (swap x)).Perm (add L x) := by
  have hk : (l.map (swap x)).map (·.1) = l.map (·.1) := by
    rw [List.map_map]
    refine List.map_congr_left fun k _ => swap_key x k
  have hn : ((l.map (swap x)).map (·.1)).Nodup := by
    rw [hk]
    have := keys_perm hp hi
    rwa [rows_keys] at this
  refine (List.perm_ext_iff_of_nodup (nodup_of_keys hn) (nodup_of_keys (keys_inc (inc_add hi x)))).2 fun y => ?_
  rw [List.mem_map, mem_add]
  constructor
  · rintro ⟨k, hk, rfl⟩
    unfold swap
    split
    · exact .inl rfl
    · rename_i h
      exact .inr ⟨hp.mem_iff.1 hk, h⟩
  · rintro (rfl | ⟨h1, h2⟩)
    · obtain ⟨k, hk, e⟩ := has_iff.1 hh
      exact ⟨k, hp.mem_iff.2 hk, by unfold swap; rw [if_pos e]⟩
    · exact ⟨y, hp.mem_iff.2 h1, by unfold swap; rw [if_neg h2]⟩
theorem app_perm {l L : List Bd} {x : Bd} (hp : l.Perm L) (hi : Inc L) (hh : has L x.1 = false) : (l ++ [x]).Perm (add L x) := by
  have hn : (x :: L).Nodup := List.nodup_cons.2 ⟨fun hb => has_no.1 hh x hb rfl, nodup_of_keys (keys_inc hi)⟩
  have h1 : (add L x).Perm (x :: L) := by
    refine (List.perm_ext_iff_of_nodup (nodup_of_keys (keys_inc (inc_add hi x))) hn).2 fun y => ?_
    rw [mem_add, List.mem_cons]
    exact ⟨fun h1 => h1.imp id (fun h2 => h2.1), fun h1 => h1.imp id (fun h2 => ⟨h2, has_no.1 hh y h2⟩)⟩
  refine (List.perm_append_comm (l₁ := l) (l₂ := [x])).trans (List.Perm.trans ?_ h1.symm)
  exact hp.cons x
theorem perm_eq {L L' l : List Bd} (h1 : l.Perm L) (h2 : L'.Perm l) (i1 : Inc L) (i2 : Inc L') : L' = L := inc_ext i2 i1 fun _ => (h2.mem_iff).trans h1.mem_iff
end Ty
theorem grown_set (w : World) (g j : Nat) (v : Value) : w.grownBy (w.setCell ⟨g, j, none⟩ v) (some g) := by
  have h : ∀ B, B ≠ g → (w.setCell ⟨g, j, none⟩ v).heap[B]? = w.heap[B]? := fun B hB => Below.heap_setCell _ _ _ B (fun e => hB e)
  have hb := Below.setCell (p := ⟨g, j, none⟩) (Below.refl 0 w) (Nat.zero_le _) v
  exact ⟨hb.os, hb.tape, hb.output, (by simp [World.setCell]), fun k _ hk => h k (fun e => hk (by rw [e]))⟩
/-- What turns a block behind both tallies leaves them. -/
theorem TT.far {w0 w w' : World} {s1 b1 s2 b2 B0 : Nat} {L1 L2 : List Bd} {row : Option Nat} (h : TT w0 w s1 b1 s2 b2 L1 L2) (hB : s1 < B0 ∧ b1 < B0 ∧ s2 < B0 ∧ b2 < B0 ∧ w0.heap.size ≤ B0) (hg : w.grownBy w' row) (hr : ∀ g, row = some g → B0 ≤ g) : TT w0 w' s1 b1 s2 b2 L1 L2 := by
  have e : ∀ k, k < B0 → k < w.heap.size → w'.heap[k]? = w.heap[k]? := fun k hk hl => hg.block k hl (fun e => by have := hr k e.symm; omega)
  exact ⟨h.h1.kept (e _ hB.1 h.h1.lt.1) (e _ hB.2.1 h.h1.lt.2.1), h.h2.kept (e _ hB.2.2.1 h.h2.lt.1) (e _ hB.2.2.2.1 h.h2.lt.2.1), h.ne, h.lo, h.bel.grown hg h.bel.size (fun k hk => Nat.le_trans hB.2.2.2.2 (hr k hk))⟩
theorem Row.nomap {α : Type} {E : Enc α} {w : World} {B : Nat} {e : TypeId} {v : Value} {ls : List α} {bm : Nat} {m : Int} {L : List Bd} (h : Row E w B e v ls) (hm : MA w bm m L) : v.ownBlock = none ∨ v.ownBlock ≠ some bm := by
  rcases h with ⟨rfl, rfl⟩ | ⟨g, cap, cur, rfl, hB, hg, -⟩
  · exact .inl rfl
  · right
    intro e
    simp [Value.ownBlock] at e
    subst e
    obtain ⟨M, h1, _⟩ := hm.map
    obtain ⟨es, clock, hr, _⟩ := h1.out
    rw [hg] at hr
    cases hr
theorem infoB : (Try.prog.info? 32).map (fun i => (i.zero, i.size, i.bytes)) = some (some (.agg #[.int .i64 0, .int .i64 0, .int .i64 0]), 3, 24) := by kernel_rfl
theorem at_oneB {w : World} {A : Nat} {x : Bd} {T : TypeId} (h : w.heap[A]? = some (.cells #[.int .i64 x.1, .int .i64 x.2.1, .int .i64 x.2.2] T)) : AtW EB w (.slice (some ⟨A, 0, none⟩) 1 1) [x] := by
  refine .inr ⟨A, 0, 1, rfl, trivial, (Array.getElem?_eq_some_iff.1 h).1, by simp, by simp, by unfold maxLen; omega, fun j u hj => ?_⟩
  obtain ⟨⟨c0, c1, c2⟩, -⟩ := bid_of h
  match j, hj with
  | 0, hj => simp [Enc.flat, EB] at hj; subst hj; exact c0
  | 1, hj => simp [Enc.flat, EB] at hj; subst hj; exact c1
  | 2, hj => simp [Enc.flat, EB] at hj; subst hj; exact c2
theorem Enc.flat_cell {α : Type} (E : Enc α) {l : List α} {k j : Nat} {x x' : α} {u : Value} (hk : l[k]? = some x) (hj : j < E.sz) (hc : E.cells x' = (E.cells x).set j u) : (E.flat l).set (k * E.sz + j) u = E.flat (l.set k x') := by
  have hlt := (List.getElem?_eq_some_iff.1 hk).1
  have h1 := E.flat_set l k x hlt
  have h2 := E.flat_set l k x' hlt
  have hx : l.set k x = l := by
    have : l[k] = x := (List.getElem?_eq_some_iff.1 hk).2
    rw [← this]
    exact List.set_getElem_self hlt
  rw [hx] at h1
  have hlen : ((E.flat l).take (k * E.sz)).length = k * E.sz := by
    rw [List.length_take, E.flat_length]
    exact Nat.min_eq_left (Nat.mul_le_mul_right _ (by omega))
  have hcl : (E.cells x).length = E.sz := E.len x
  rw [← h2, hc]
  generalize (E.flat l).take (k * E.sz) = A at *
  generalize (E.flat l).drop (k * E.sz + E.sz) = D at *
  rw [← h1, List.append_assoc, List.append_assoc, List.set_append_right _ _ (by omega), hlen, Nat.add_sub_cancel_left, List.set_append_left _ _ (by omega)]
theorem Row.cell {α : Type} {E : Enc α} {w : World} {B : Nat} {e : TypeId} {g n cap : Nat} {ls : List α} {k j : Nat} {x x' : α} {u : Value} (h : Row E w B e (.slice (some ⟨g, 0, none⟩) n cap) ls) (hk : ls[k]? = some x) (hj : j < E.sz) (hc : E.cells x' = (E.cells x).set j u) :
    Row E (w.setCell ⟨g, k * E.sz + j, none⟩ u) B e (.slice (some ⟨g, 0, none⟩) n cap) (ls.set k x') := by
  rcases h with ⟨h, _⟩ | ⟨g', cap', cur, hv, hB, hh, h1, h2, h3, h4⟩
  · cases h
  · simp only [Value.slice.injEq, Option.some.injEq, Addr.mk.injEq] at hv
    obtain ⟨⟨rfl, -, -⟩, rfl, rfl⟩ := hv
    refine .inr ⟨g, cap, cur.setIfInBounds (k * E.sz + j) u, by rw [List.length_set], hB, ?_, by rw [List.length_set]; exact h1, h2, by rw [Array.size_setIfInBounds]; exact h3, ?_⟩
    · simp [World.setCell, Array.getElem?_modify, hh]
    · rw [List.length_set, Array.toList_setIfInBounds, List.take_set, h4]
      exact E.flat_cell hk hj hc
theorem Row.set3 {w : World} {B : Nat} {e : TypeId} {g n cap : Nat} {ls : List Bd} {k : Nat} {x y : Bd} (h : Row EB w B e (.slice (some ⟨g, 0, none⟩) n cap) ls) (hk : ls[k]? = some x) :
    Row EB (((w.setCell ⟨g, k * 3, none⟩ (.int .i64 y.1)).setCell ⟨g, k * 3 + 1, none⟩ (.int .i64 y.2.1)).setCell ⟨g, k * 3 + 2, none⟩ (.int .i64 y.2.2)) B e (.slice (some ⟨g, 0, none⟩) n cap) (ls.set k y) := by
  have hlt := (List.getElem?_eq_some_iff.1 hk).1
  have h1 := Row.cell (j := 0) (x' := (y.1, x.2.1, x.2.2)) (u := .int .i64 y.1) h hk (by decide) rfl
  have h2 := Row.cell (j := 1) (x' := (y.1, y.2.1, x.2.2)) (u := .int .i64 y.2.1) h1 (List.getElem?_set_self hlt) (by decide) rfl
  have h3 := Row.cell (j := 2) (x' := y) (u := .int .i64 y.2.2) h2 (List.getElem?_set_self (by rw [List.length_set]; exact hlt)) (by decide) rfl
  rw [List.set_set, List.set_set] at h3
  exact h3
theorem results_cell1 {fn : Func} {p : Tmp} {ty : TypeId} (h : fn.results = #[.cell p ty]) (tmps : Array Value) (P : Program) (w : World) :
    (results fn tmps).run P w = ((asAddr (tmps.getD p undef)).run P w).andThen fun a w₁ => (loadVar ty a).run P w₁ := by
  simp only [results, h]
  simp [Sem.run_bind, Result.andThen]
abbrev BR (x : Bd) : Obj := .cells #[.int .i64 x.1, .int .i64 x.2.1, .int .i64 x.2.2] 39
theorem lref_any (x : Bd) (w : World) : Calls Try.prog 12 #[VB x] w fun e w' => e = .returned (VB x) ∧ w.grownBy w' none := by
  have HG : Hid (w.grownBy ((w.alloc (BB x)).alloc (BR x)) none) := grown_trans (World.grownBy_alloc _ _ none) (World.grownBy_alloc _ _ none)
  go_enter Try.func12, Try.ntmps12
  go_wp2
  (try simp only [Exit.inBlock, Exit.then])
  refine bodyPost_ret (v := VB x) ?_ rfl ⟨rfl, HG.out⟩
  rw [results_cell1 rfl]
  go_simp
theorem rbetter_any (a b : Bd) (w : World) : Calls Try.prog 23 #[VB a, VB b] w fun e w' => e = .returned (.bool (Ty.bet a b)) ∧ w.grownBy w' none := by
  have hg : w.grownBy ((w.alloc (BR a)).alloc (BR b)) none := grown_trans (World.grownBy_alloc _ _ none) (World.grownBy_alloc _ _ none)
  have HG : Hid (w.grownBy ((w.alloc (BR a)).alloc (BR b)) none) := hg
  unfold Ty.bet
  clear hg
  by_cases e1 : a.2.1 = b.2.1
  · rw [if_pos e1]
    by_cases e2 : a.2.2 = b.2.2
    · rw [if_pos e2]
      have e1' : (a.2.1 != b.2.1) = false := by simp [e1]
      have e2' : (a.2.2 != b.2.2) = false := by simp [e2]
      clear e1 e2
      go_enter Try.func23, Try.ntmps23
      go_wp2
      go_ret
      exact ⟨rfl, HG.out⟩
    · rw [if_neg e2]
      have e1' : (a.2.1 != b.2.1) = false := by simp [e1]
      have e2' : (a.2.2 != b.2.2) = true := by simp [e2]
      clear e1 e2
      go_enter Try.func23, Try.ntmps23
      go_wp2
      go_ret
      exact ⟨rfl, HG.out⟩
  · rw [if_neg e1]
    have e1' : (a.2.1 != b.2.1) = true := by simp [e1]
    clear e1
    go_enter Try.func23, Try.ntmps23
    go_wp2
    go_ret
    exact ⟨rfl, HG.out⟩
end Go.Proofs.Ytdcknokggjbebaa
