/-
  The texts SRow, SBi, SRef, SRefT, WPut, as one.
-/
import Derived.Deep.DeepAppendWide
import Derived.Deep.MidRow
import Derived.Test.YtkdhbjmpjbdobaaGreatDoorM24
/- SRow -/
namespace Go.Proofs.YtkdhbjmpjbdobaaGreatDoor
open Go.RowKit Go.ChangeShapes Go.WideShapes Go.ChangeAt Go.Deep Sk
set_option maxRecDepth 100000
namespace Sk
structure Wa where
  q : Int
  r : Ns.Rep
  p : Option Addr
  c : Nat
end Sk
abbrev VW (x : Wa) : Value := .agg #[.int .i64 x.q, .int .i64 x.r.e, .int .i64 x.r.no, .int .i64 x.r.gen, .int .i64 x.r.k, .int .i64 x.r.l, .int .i64 x.r.s, .int .i64 x.r.t, .string x.r.data, .slice x.p x.r.ents.length x.c, .int .i64 x.r.n]
abbrev BW (x : Wa) : Obj := .cells #[.int .i64 x.q, .int .i64 x.r.e, .int .i64 x.r.no, .int .i64 x.r.gen, .int .i64 x.r.k, .int .i64 x.r.l, .int .i64 x.r.s, .int .i64 x.r.t, .string x.r.data, .slice x.p x.r.ents.length x.c, .int .i64 x.r.n] 56
def EW : Enc Wa := { sz := 11, cells := fun x => [.int .i64 x.q, .int .i64 x.r.e, .int .i64 x.r.no, .int .i64 x.r.gen, .int .i64 x.r.k, .int .i64 x.r.l, .int .i64 x.r.s, .int .i64 x.r.t, .string x.r.data, .slice x.p x.r.ents.length x.c, .int .i64 x.r.n], len := fun _ => rfl, one := fun x u hu => by simp at hu; rcases hu with rfl | rfl | rfl | rfl | rfl | rfl | rfl | rfl | rfl | rfl | rfl <;> rfl }
theorem fl_len (l : List Wa) : (EW.flat l).length = l.length * 11 := EW.flat_length l
theorem fl_cons (x : Wa) (l : List Wa) : EW.flat (x :: l) = EW.cells x ++ EW.flat l := by simp [Enc.flat]
theorem fl_app (a b : List Wa) : EW.flat (a ++ b) = EW.flat a ++ EW.flat b := by simp [Enc.flat]
def Rg (w : World) (B : Nat) (v : Value) (ls : List Wa) : Prop :=
  (v = .slice none 0 0 ∧ ls = []) ∨
  ∃ g off cap cur, v = .slice (some ⟨g, off, none⟩) ls.length cap ∧ B ≤ g ∧ w.heap[g]? = some (.cells cur 56 (0, 0)) ∧ ls.length ≤ cap ∧ cap ≤ maxLen ∧ off + cap * 11 ≤ cur.size ∧ (cur.toList.drop off).take (ls.length * 11) = EW.flat ls
theorem Rg.nil (w : World) (B : Nat) : Rg w B (.slice none 0 0) [] := .inl ⟨rfl, rfl⟩
theorem Rg.slice {w : World} {B : Nat} {v : Value} {ls : List Wa} (h : Rg w B v ls) : ∃ p c, v = .slice p ls.length c := by
  rcases h with ⟨rfl, rfl⟩ | ⟨g, off, cap, cur, rfl, _⟩
  · exact ⟨_, _, rfl⟩
  · exact ⟨_, _, rfl⟩
theorem Rg.lt {w : World} {B : Nat} {v : Value} {ls : List Wa} (h : Rg w B v ls) : ∀ k, v.ownBlock = some k → B ≤ k ∧ k < w.heap.size := by
  rcases h with ⟨rfl, rfl⟩ | ⟨g, off, cap, cur, rfl, hB, hg, _⟩
  · intro k hk; simp [Value.ownBlock] at hk
  · intro k hk
    simp [Value.ownBlock] at hk
    subst hk
    exact ⟨hB, some_lt hg⟩
theorem Rg.ne {w : World} {B : Nat} {v : Value} {ls : List Wa} (h : Rg w B v ls) {k : Nat} {o : Obj} (hk : w.heap[k]? = some o) (ho : ∀ cs z, o ≠ .cells cs 56 z) : v.ownBlock ≠ some k := by
  rcases h with ⟨rfl, rfl⟩ | ⟨g, off, cap, cur, rfl, hB, hg, _⟩
  · simp [Value.ownBlock]
  · intro e
    simp only [Value.ownBlock, Option.some.injEq] at e
    subst e
    rw [hg] at hk
    exact ho _ _ (Option.some.inj hk).symm
theorem Rg.kept {w w' : World} {B : Nat} {v : Value} {ls : List Wa} (h : Rg w B v ls) (hb : ∀ k, v.ownBlock = some k → w'.heap[k]? = w.heap[k]?) : Rg w' B v ls := by
  rcases h with h | ⟨g, off, cap, cur, rfl, hB, hh, h1⟩
  · exact .inl h
  · exact .inr ⟨g, off, cap, cur, rfl, hB, (hb g rfl).trans hh, h1⟩
theorem Rg.up {w w' : World} {B : Nat} {v : Value} {ls : List Wa} (h : Rg w B v ls) (hb : Below w.heap.size w w') : Rg w' B v ls := h.kept fun k hk => hb.block k (h.lt k hk).2
/-- The cells of the first. -/
theorem Rg.head {w : World} {B : Nat} {x : Wa} {ls : List Wa} {v : Value} (h : Rg w B v (x :: ls)) : ∃ g off cap, v = .slice (some ⟨g, off, none⟩) (ls.length + 1) cap ∧ g < w.heap.size ∧ ls.length + 1 ≤ cap ∧ ∀ j u, (EW.cells x)[j]? = some u → w.cell? ⟨g, off + j, none⟩ = some u := by
  rcases h with ⟨-, h⟩ | ⟨g, off, cap, cur, rfl, hB, hh, h1, h2, h3, h4⟩
  · cases h
  · refine ⟨g, off, cap, rfl, some_lt hh, h1, fun j u hj => ?_⟩
    have hlt : j < 11 := by have := (List.getElem?_eq_some_iff.1 hj).1; rwa [EW.len] at this
    rw [List.length_cons, fl_cons] at h4
    have hx : (EW.cells x ++ EW.flat ls)[j]? = some u := by rw [List.getElem?_append_left (by rw [EW.len]; exact hlt)]; exact hj
    rw [← h4, List.getElem?_take_of_lt (by omega), List.getElem?_drop, Array.getElem?_toList] at hx
    simp only [World.cell?, hh, Option.isSome_none, Bool.false_eq_true, if_false]
    exact hx
/-- All but the first. -/
theorem Rg.tail {w : World} {B : Nat} {x : Wa} {ls : List Wa} {g off n cap : Nat} (h : Rg w B (.slice (some ⟨g, off, none⟩) n cap) (x :: ls)) : n = ls.length + 1 ∧ 1 ≤ cap ∧ n ≤ cap ∧ Rg w B (.slice (if cap = 1 then some ⟨g, off, none⟩ else some ⟨g, off + 11, none⟩) ls.length (cap - 1)) ls := by
  rcases h with ⟨h, -⟩ | ⟨g', off', cap', cur, e, hB, hh, h1, h2, h3, h4⟩
  · cases h
  · simp only [Value.slice.injEq, Option.some.injEq, Addr.mk.injEq, and_true, List.length_cons] at e
    obtain ⟨⟨rfl, rfl⟩, rfl, rfl⟩ := e
    rw [List.length_cons] at h1
    refine ⟨rfl, by omega, h1, ?_⟩
    by_cases hc : cap = 1
    · subst hc
      obtain rfl : ls = [] := List.eq_nil_of_length_eq_zero (by omega)
      rw [if_pos rfl]
      exact .inr ⟨g, off, 0, cur, rfl, hB, hh, Nat.le_refl _, by decide, by omega, by simp [Enc.flat]⟩
    · rw [if_neg hc]
      refine .inr ⟨g, off + 11, cap - 1, cur, rfl, hB, hh, by omega, by omega, by omega, ?_⟩
      have : (cur.toList.drop (off + 11)).take (ls.length * 11) = ((cur.toList.drop off).take ((ls.length + 1) * 11)).drop 11 := by
        rw [List.drop_take, List.drop_drop, show (ls.length + 1) * 11 - 11 = ls.length * 11 from by omega]
      rw [this]
      rw [List.length_cons, fl_cons] at h4
      rw [h4]
      exact List.drop_left' (EW.len x)
section
variable {P : Program} (w : World)
theorem Rg.append_run (B : Nat) (t ty : TypeId) (i : TypeInfo) (z : Value) (bytes : Nat) (ht : P.underlying t = some (.slice 56)) (hi : P.info? 56 = some i) (hz : i.zero = some z) (hsize : i.size = 11) (hby : i.bytes = bytes) (hzs : z.cells.size = 11)
    (v : Value) (ls : List Wa) (hrow : Rg w B v ls) (x : Value) (xs : List Wa) (hx : AtW EW w x xs) (hne : 0 < xs.length) (h63 : ls.length + xs.length ≤ 1000) (hbytes : (ls.length + xs.length + (ls.length + xs.length) / 4 + 192) * bytes ≤ 281474976710656) (hbase : B ≤ w.heap.size) :
    ∃ v' w', (Builtin.append_ #[t, t] ty #[v, x]).run P w = .ok v' w' ∧ Rg w' B v' (ls ++ xs) ∧ w.grownBy w' v.ownBlock ∧ (v'.ownBlock = v.ownBlock ∨ ∀ j, v'.ownBlock = some j → w.heap.size ≤ j) := by
  have hs : Src P i.size t x xs.length (EW.flat xs) w := by rw [hsize]; exact hx.src ht
  have hl : (EW.flat xs).length = xs.length * 11 := fl_len xs
  have hll : (EW.flat ls).length = ls.length * 11 := fl_len ls
  have h64 : ls.length + xs.length ≤ maxLen := by unfold maxLen; omega
  subst hby
  have grown : ∀ (old : Nat), old < ls.length + xs.length → ∀ (row : Option Nat),
      Rg (w.drew.alloc (.cells ((EW.flat ls ++ EW.flat xs).toArray ++ Builtin.zeroCells z.cells (grownCap w (ls.length + xs.length) old 56 - (ls.length + xs.length))) 56)) B
        (.slice (some ⟨w.heap.size, 0, none⟩) (ls.length + xs.length) (grownCap w (ls.length + xs.length) old 56)) (ls ++ xs) ∧
      w.grownBy (w.drew.alloc (.cells ((EW.flat ls ++ EW.flat xs).toArray ++ Builtin.zeroCells z.cells (grownCap w (ls.length + xs.length) old 56 - (ls.length + xs.length))) 56)) row := by
    intro old ho row
    have hge := grownCap_ge w (ls.length + xs.length) old 56
    have hcm : grownCap w (ls.length + xs.length) old 56 ≤ maxLen := grownCap_le_maxLen w (ls.length + xs.length) old 56 h64
    refine ⟨.inr ⟨w.heap.size, 0, _, _, by simp, hbase, heap_alloc_new w.drew _, by simpa using hge, hcm, ?_, ?_⟩, ⟨rfl, rfl, rfl, by simp, fun k hk _ => Below.heap_alloc w.drew _ k hk⟩⟩
    · simp only [Array.size_append, List.size_toArray, List.length_append, size_zeroCells, hzs, hl, hll]
      omega
    · simp only [Array.toList_append, List.drop_zero]
      rw [show (ls ++ xs).length * 11 = (EW.flat ls ++ EW.flat xs).length from by rw [List.length_append, List.length_append, hl, hll]; omega, fl_app]
      exact List.take_left
  rcases hrow with ⟨rfl, rfl⟩ | ⟨g, off, cap, cur, rfl, hB, hg, h1, h2, h3, h4⟩
  · have hr := run_append_grow_src (P := P) w t t ty 56 i z ht hi hz none 0 0 [] (run_firstCells_none w.drew _ _ _ _) x xs.length (EW.flat xs) hs (by omega) (by omega) (growslice_fits_wide (by omega) (by simpa using hbytes))
    have hgr := grown 0 (by simp; omega) (Value.ownBlock (.slice none 0 0))
    simp only [List.length_nil, Nat.zero_add, show EW.flat [] = [] from rfl, List.nil_append] at hgr hr ⊢
    exact ⟨_, _, hr, hgr.1, hgr.2, .inr (fun j hj => by simp [Value.ownBlock] at hj; omega)⟩
  · by_cases hroom : ls.length + xs.length ≤ cap
    · have hfit : off + ls.length * i.size + (EW.flat xs).length ≤ cur.size := by rw [hl, hsize]; omega
      have hst := run_storeCells_at P g (off + ls.length * i.size) 56 (EW.flat xs) 0 cur w hg (by simpa using hfit) hs.one
      simp only [Nat.add_zero] at hst
      have hr : (Builtin.append_ #[t, t] ty #[.slice (some ⟨g, off, none⟩) ls.length cap, x]).run P w = .ok (.slice (some ⟨g, off, none⟩) (ls.length + xs.length) cap) (w.setRow g (cur.toList.take (off + ls.length * i.size) ++ EW.flat xs ++ cur.toList.drop (off + ls.length * i.size + (EW.flat xs).length)).toArray) := by
        simp [Builtin.append_, run_underlying ht, sizeOf, typeInfo, hi, hs.len, hroom, hs.cells, Addr.add_lit, hst]
      refine ⟨_, _, hr, .inr ⟨g, off, cap, _, by simp, hB, setRow_heap w g cur _ 56 _ hg, by simpa using hroom, h2, ?_, ?_⟩, ⟨rfl, rfl, rfl, by simp, fun k _ hk => setRow_other w g k _ (fun e => hk (by simp [Value.ownBlock, e]))⟩, .inl rfl⟩
      · simp only [List.size_toArray, List.length_append, List.length_take, List.length_drop, Array.length_toList]
        rw [hsize] at hfit ⊢
        omega
      · rw [hsize, List.append_assoc]
        have e1 : cur.toList.take (off + ls.length * 11) = cur.toList.take off ++ (cur.toList.drop off).take (ls.length * 11) := by rw [List.take_add]
        have hcl : (cur.toList.take off).length = off := by simp only [List.length_take, Array.length_toList]; omega
        rw [e1, h4, List.append_assoc, List.drop_append_of_le_length (by omega), List.drop_of_length_le (by omega), List.nil_append, ← List.append_assoc, show (ls ++ xs).length * 11 = (EW.flat ls ++ EW.flat xs).length from by rw [List.length_append, List.length_append, hl, hll]; omega, fl_app]
        exact List.take_left
    · have holds : ∀ j u, (EW.flat ls)[j]? = some u → w.cell? ((⟨g, off, none⟩ : Addr).add j) = some u := fun j u hj => by
        have hlt : j < ls.length * 11 := by rw [← hll]; exact (List.getElem?_eq_some_iff.1 hj).1
        rw [← h4, List.getElem?_take_of_lt hlt, List.getElem?_drop, Array.getElem?_toList] at hj
        rw [WideShapes.add_plain]
        simp only [World.cell?, hg, Option.isSome_none, Bool.false_eq_true, if_false]
        exact hj
      have hr := run_append_grow_src (P := P) w t t ty 56 i z ht hi hz (some ⟨g, off, none⟩) ls.length cap (EW.flat ls) (run_firstCells_some w.drew _ _ _ _ _ (EW.flat ls) (by rw [hsize]; exact hll) (by simpa using holds)) x xs.length (EW.flat xs) hs (by omega) (by omega) (growslice_fits_wide (by omega) hbytes)
      have hgr := grown cap (by omega) (Value.ownBlock (.slice (some ⟨g, off, none⟩) ls.length cap))
      exact ⟨_, _, hr, hgr.1, hgr.2, .inr (fun j hj => by simp [Value.ownBlock] at hj; omega)⟩
end
end Go.Proofs.YtkdhbjmpjbdobaaGreatDoor
/- SBi -/
namespace Go.Proofs.YtkdhbjmpjbdobaaGreatDoor
set_option maxRecDepth 100000
namespace Sk
/-- What waits in the code's inbox is what waits in the document's list. -/
def Mt : List ByteArray → List Wa → Prop
  | [], [] => True
  | x :: l, y :: m => (∃ d : ByteArray, x = Me.packed (Sk.mk 2 0 y.q 0 d) ∧ d.size ≤ 8192 ∧ (0 ≤ y.q ∧ y.q ≤ 1099511627776) ∧ y.r = Ns.Re.unpR d.data.toList) ∧ Mt l m
  | _, _ => False
theorem Mt.len : ∀ {l : List ByteArray} {m : List Wa}, Mt l m → m.length = l.length
  | [], [], _ => rfl
  | x :: l, y :: m, h => by rw [List.length_cons, List.length_cons, Mt.len h.2]
  | [], y :: m, h => by cases h
  | x :: l, [], h => by cases h
theorem Mt.snoc : ∀ {l : List ByteArray} {m : List Wa} {y : Wa} {d : ByteArray}, Mt l m → d.size ≤ 8192 → (0 ≤ y.q ∧ y.q ≤ 1099511627776) → y.r = Ns.Re.unpR d.data.toList → Mt (l ++ [Me.packed (Sk.mk 2 0 y.q 0 d)]) (m ++ [y])
  | [], [], y, d, _, h1, h2, h3 => ⟨⟨d, rfl, h1, h2, h3⟩, trivial⟩
  | x :: l, z :: m, y, d, h, h1, h2, h3 => ⟨h.1, Mt.snoc h.2 h1 h2 h3⟩
  | [], z :: m, y, d, h, _, _, _ => by cases h
  | x :: l, [], y, d, h, _, _, _ => by cases h
structure Bi (f : Int) (s : Sb) (b : ByteArray) (W : List Wa) : Prop where
  is : Pn.Is s.n f
  id : s.n ≤ s.id ∧ s.id ≤ 31
  t : 0 ≤ s.t ∧ s.t ≤ f
  r : 0 ≤ s.r ∧ s.r ≤ 1099511627776
  l : s.L.length ≤ 64
  y : bz s = true → s.lt = Me.packed (Sk.mk 1 0 s.r s.id b) ∧ b.size ≤ 8192 ∧ s.L.length < 64
  m : Mt s.L W
section
variable {f : Int} {s : Sb} {b : ByteArray} {W : List Wa}
theorem Bi.fp (h : Bi f s b W) : 0 ≤ f ∧ f ≤ 3 ∧ 0 ≤ s.n := by have := h.is; unfold Pn.Is at this; omega
theorem Bi.zero {id n : Int} (h : Pn.Is n f) (h1 : n ≤ id) (h2 : id ≤ 31) : Bi f (s0 id n) ⟨#[]⟩ [] := by
  have hz : bz (s0 id n) = false := by unfold bz s0; rw [ByteArray.toList_eq]; rfl
  have hf : 0 ≤ f := by unfold Pn.Is at h; omega
  exact ⟨h, ⟨h1, h2⟩, ⟨Int.le_refl _, hf⟩, ⟨Int.le_refl _, by show (0 : Int) ≤ 1099511627776; decide⟩, Nat.zero_le _, fun e => (by rw [hz] at e; cases e), trivial⟩
theorem Bi.call {c : Cl} (h : Bi f s b W) (hc : callE c s = 0) : Bi f (callS c s) (Ks.Ak.packOut c) W := by
  obtain ⟨_, hb, hf⟩ := callE_parts hc
  unfold full at hf
  simp only [Bool.or_eq_false_iff, beq_eq_false_iff_ne, ne_eq] at hf
  have hr := h.r
  have hl := h.l
  refine ⟨h.is, h.id, h.t, ?_, h.l, fun _ => ⟨rfl, askSz _, ?_⟩, h.m⟩
  · show 0 ≤ s.r + 1 ∧ s.r + 1 ≤ 1099511627776
    omega
  · show s.L.length < 64
    omega
theorem Bi.tick (h : Bi f s b W) : Bi f (tickS f s) b W := by
  refine ⟨h.is, h.id, ?_, h.r, h.l, h.y, h.m⟩
  show 0 ≤ (if s.g then s.t else if s.t = f then 0 else s.t + 1) ∧ (if s.g then s.t else if s.t = f then 0 else s.t + 1) ≤ f
  have := h.t
  have := h.fp
  split
  · exact h.t
  · split <;> omega
theorem Bi.fol {v : Int} (h : Bi f s b W) : Bi f (folS f s v) b W := by
  unfold folS
  split
  · exact h
  · refine ⟨h.is, h.id, ?_, h.r, h.l, h.y, h.m⟩
    show 0 ≤ v % (f + 1) ∧ v % (f + 1) ≤ f
    have := h.fp
    exact ⟨Int.emod_nonneg _ (by omega), by have := Int.emod_lt_of_pos v (show 0 < f + 1 by omega); omega⟩
theorem Bi.set {q : Int} {d : ByteArray} {y : Wa} (h : Bi f s b W) (hb : setB s q d = true) (hd : d.size ≤ 8192) (hy : y.q = q ∧ y.r = Ns.Re.unpR d.data.toList) : Bi f (setS s q d) b (W ++ [y]) := by
  obtain ⟨hz, hq⟩ := setB_parts hb
  have h3 := (h.y hz).2.2
  have hr := h.r
  refine ⟨h.is, h.id, h.t, h.r, ?_, fun e => ?_, ?_⟩
  · show (s.L ++ [Me.packed (Sk.mk 2 0 q 0 d)]).length ≤ 64
    simp only [List.length_append, List.length_singleton]
    omega
  · rw [bz_set] at e; cases e
  · show Mt (s.L ++ [Me.packed (Sk.mk 2 0 q 0 d)]) (W ++ [y])
    have := h.m.snoc (y := y) hd (by rw [hy.1, hq]; exact hr) hy.2
    rw [hy.1] at this
    exact this
theorem Bi.take {x : ByteArray} {l : List ByteArray} (h : Bi f s b W) (hL : s.L = x :: l) : ∃ y m, W = y :: m ∧ Bi f { s with L := l } b m ∧ Me.unpE x = 0 ∧ (Me.unpM x).o = y.q ∧ Ns.Re.unpR (Me.unpM x).d.data.toList = y.r := by
  have hm := h.m
  rw [hL] at hm
  cases W with
  | nil => cases hm
  | cons y m =>
    obtain ⟨⟨d, hx, hd, hq, hr⟩, hm⟩ := hm
    have h64 := h.l
    rw [hL, List.length_cons] at h64
    obtain ⟨_, _, p3, p4, _⟩ := mk_pack (k := 2) (v := 0) (r := y.q) (c := 0) (b := d) (by omega) (by omega) hq (by omega) hd
    refine ⟨y, m, rfl, ⟨h.is, h.id, h.t, h.r, ?_, fun e => ?_, hm⟩, ?_, ?_, ?_⟩
    · show l.length ≤ 64
      omega
    · obtain ⟨a1, a2, a3⟩ := h.y e
      refine ⟨a1, a2, ?_⟩
      show l.length < 64
      omega
    · rw [hx]; exact p4
    · rw [hx, p3]; rfl
    · rw [hx, p3, hr]; rfl
theorem Bi.none (h : Bi f s b W) (hL : s.L = []) : W = [] := by
  have := h.m.len
  rw [hL] at this
  exact List.eq_nil_of_length_eq_zero (by simpa using this)
end
end Sk
end Go.Proofs.YtkdhbjmpjbdobaaGreatDoor
/- SRef -/
namespace Go.Proofs.YtkdhbjmpjbdobaaGreatDoor
open Go.ChangeShapes Go.WideShapes Go.ChangeAt Go.RowKit Go.Deep Sk
set_option maxRecDepth 100000
abbrev BRf (s : Sb) (b : ByteArray) (lv : Value) : Obj := .cells #[.int .i64 s.id, .int .i64 s.n, .int .i64 s.t, .int .i64 s.v, .int .i64 s.r, .bool (bz s), .bool s.g, .string b, lv] 55
def Rf (w : World) (A : Nat) (s : Sb) (b : ByteArray) (lv : Value) : Prop := w.heap[A]? = some (BRf s b lv)
/-- Nothing is turned but one block. -/
structure Ao (A : Nat) (w w' : World) : Prop where
  os : w'.os = w.os
  tape : w'.tape = w.tape
  output : w'.output = w.output
  size : w.heap.size ≤ w'.heap.size
  block : ∀ k, k < w.heap.size → k ≠ A → w'.heap[k]? = w.heap[k]?
section
variable {w w' : World} {A : Nat} {s : Sb} {b : ByteArray} {lv : Value}
theorem Ao.refl (A : Nat) (w : World) : Ao A w w := ⟨rfl, rfl, rfl, Nat.le_refl _, fun _ _ _ => rfl⟩
theorem Ao.trans {w1 w2 : World} (h : Ao A w w1) (k : Ao A w1 w2) : Ao A w w2 :=
  ⟨k.os.trans h.os, k.tape.trans h.tape, k.output.trans h.output, Nat.le_trans h.size k.size, fun q hq a => (k.block q (Nat.lt_of_lt_of_le hq h.size) a).trans (h.block q hq a)⟩
theorem Ao.of (h : Below w.heap.size w w') : Ao A w w' := ⟨h.os, h.tape, h.output, h.size, fun q hq _ => h.block q hq⟩
theorem Ao.set (i : Nat) (v : Value) : Ao A w (w.setCell ⟨A, i, none⟩ v) := ⟨rfl, rfl, rfl, by simp [World.setCell], fun k _ hk => Below.heap_setCell _ _ _ _ hk⟩
theorem Rf.up (h : Rf w A s b lv) (hb : Below w.heap.size w w') : Rf w' A s b lv := (hb.block A (some_lt h)).trans h
theorem Rf.cells (h : Rf w A s b lv) : w.cell? ⟨A, 0, none⟩ = some (.int .i64 s.id) ∧ w.cell? ⟨A, 1, none⟩ = some (.int .i64 s.n) ∧ w.cell? ⟨A, 2, none⟩ = some (.int .i64 s.t) ∧ w.cell? ⟨A, 3, none⟩ = some (.int .i64 s.v) ∧ w.cell? ⟨A, 4, none⟩ = some (.int .i64 s.r) ∧ w.cell? ⟨A, 5, none⟩ = some (.bool (bz s)) ∧ w.cell? ⟨A, 6, none⟩ = some (.bool s.g) ∧ w.cell? ⟨A, 7, none⟩ = some (.string b) ∧ w.cell? ⟨A, 8, none⟩ = some lv := by
  have h' : w.heap[A]? = some (BRf s b lv) := h
  refine ⟨?_, ?_, ?_, ?_, ?_, ?_, ?_, ?_, ?_⟩ <;> simp [World.cell?, h']
theorem Rf.fr (h : Rf w A s b lv) (i : Nat) : w.frozen? ⟨A, i, none⟩ = false := by
  have h' : w.heap[A]? = some (BRf s b lv) := h
  simp [World.frozen?, h']
end
theorem rnew_no {n : Int} (id : Int) (w : World) (h : Pn.No n) : Calls Tryz.prog 7 #[.int .i64 id, .int .i64 n] w fun e w' => e = .returned (.tuple #[.pointer none, .int .i64 1]) ∧ w' = w := by
  have H : Hid (Pn.No n) := h
  clear h
  go_enter Tryz.func7, Tryz.ntmps7
  go_wp2_with fail
  refine (refFaults_no _ H.out).mono ?_
  rintro e w1 ⟨rfl, rfl⟩
  go_wp2
  go_ret2
  exact ⟨rfl, rfl⟩
theorem rnew_arg {n f : Int} (id : Int) (w : World) (h : Pn.Is n f) (hi : id < n ∨ 31 < id) : Calls Tryz.prog 7 #[.int .i64 id, .int .i64 n] w fun e w' => e = .returned (.tuple #[.pointer none, .int .i64 1]) ∧ w' = w := by
  have H : Hid (Pn.Is n f) := h
  have hf : ¬ f < 0 := by unfold Pn.Is at h; omega
  clear h
  by_cases h1 : id < n
  · clear hi
    go_enter Tryz.func7, Tryz.ntmps7
    go_wp2_with fail
    refine (refFaults_yes _ H.out).mono ?_
    rintro e w1 ⟨rfl, rfl⟩
    go_wp2
    go_ret2
    exact ⟨rfl, rfl⟩
  · have h2 : 31 < id := by omega
    clear hi
    go_enter Tryz.func7, Tryz.ntmps7
    go_wp2_with fail
    refine (refFaults_yes _ H.out).mono ?_
    rintro e w1 ⟨rfl, rfl⟩
    go_wp2
    go_ret2
    exact ⟨rfl, rfl⟩
theorem rnew_ok {n f : Int} (id : Int) (w : World) (h : Pn.Is n f) (h1 : n ≤ id) (h2 : id ≤ 31) : Calls Tryz.prog 7 #[.int .i64 id, .int .i64 n] w fun e w' => e = .returned (.tuple #[.pointer (some ⟨w.heap.size, 0, none⟩), .int .i64 0]) ∧ Rf w' w.heap.size (s0 id n) ⟨#[]⟩ (.slice none 0 0) ∧ Below w.heap.size w w' := by
  have H : Hid (Pn.Is n f) := h
  have hf : ¬ f < 0 := by unfold Pn.Is at h; omega
  have h1' : ¬ id < n := by omega
  have h2' : ¬ 31 < id := by omega
  have hz : bz (s0 id n) = false := by unfold bz s0; rw [ByteArray.toList_eq]; rfl
  have HX : Hid (Rf (w.alloc (BRf (s0 id n) ⟨#[]⟩ (.slice none 0 0))) w.heap.size (s0 id n) ⟨#[]⟩ (.slice none 0 0)) := heap_alloc_new _ _
  have HB : Hid (Below w.heap.size w (w.alloc (BRf (s0 id n) ⟨#[]⟩ (.slice none 0 0)))) := below_alloc _ _
  unfold BRf at HX HB
  rw [hz] at HX HB
  clear h h1 h2 hz
  go_enter Tryz.func7, Tryz.ntmps7
  go_wp2_with fail
  refine (refFaults_yes _ H.out).mono ?_
  rintro e w1 ⟨rfl, rfl⟩
  go_wp2
  go_ret2
  exact ⟨rfl, HX.out, HB.out⟩
theorem rletter_any (A : Nat) (s : Sb) (b : ByteArray) (lv : Value) (w : World) (h : Rf w A s b lv) (hid : 0 ≤ s.id ∧ s.id ≤ 31) (hr : 0 ≤ s.r ∧ s.r ≤ 1099511627776) (hb : b.size ≤ 8192) : Calls Tryz.prog 32 #[.pointer (some ⟨A, 0, none⟩)] w fun e w' => e = .returned (.string (Me.packed (mk 1 0 s.r s.id b))) ∧ Below w.heap.size w w' := by
  have H : Hid (Rf w A s b lv) := h
  obtain ⟨c0, c1, c2, c3, c4, c5, c6, c7, c8⟩ := h.cells
  have hA : A ≠ w.heap.size := by have := some_lt h; omega
  have hA' : w.heap.size ≠ A := Ne.symm hA
  obtain ⟨x1, x2, -, -, -⟩ := mk_pack (k := 1) (v := 0) (r := s.r) (c := s.id) (b := b) (by omega) (by omega) hr (by omega) hb
  revert x1
  generalize Me.packed (mk 1 0 s.r s.id b) = pk
  intro x1
  have HC : Hid (∀ V : World, Calls Tryz.prog 56 #[VM (mk 1 0 s.r s.id b) (.slice none 0 0) (.slice none 0 0)] V fun e w' => e = .returned (.tuple #[.string pk, .int .i64 0]) ∧ Below V.heap.size V w') := fun V => by
    have := rPack_any (mk 1 0 s.r s.id b) (.slice none 0 0) (.slice none 0 0) V ⟨.inl ⟨_, _, rfl, rfl⟩, .inl ⟨_, _, rfl, rfl⟩⟩
    rw [x1, x2] at this
    exact this
  have HB : Hid (∀ o, Below w.heap.size w (w.alloc o)) := fun o => below_alloc _ _
  have e0 : ∀ o, (w.alloc o).cell? ⟨A, 0, none⟩ = some (.int .i64 s.id) := fun o => (h.up (below_alloc w o)).cells.1
  have e4 : ∀ o, (w.alloc o).cell? ⟨A, 4, none⟩ = some (.int .i64 s.r) := fun o => (h.up (below_alloc w o)).cells.2.2.2.2.1
  clear h hid hr hb x1 x2
  go_enter Tryz.func32, Tryz.ntmps32
  go_wp2_with fail
  refine (HC.out _).mono ?_
  rintro e w2 ⟨rfl, hb2⟩
  have HB2 : Hid (Below w.heap.size w w2) := bup (HB.out _) hb2
  clear hb2
  go_wp2
  go_ret
  exact ⟨rfl, HB2.out⟩
theorem Rf.set {w : World} {A i : Nat} {s s' : Sb} {b b' : ByteArray} {lv lv' v : Value} (h : Rf w A s b lv) (hv : (#[Value.int .i64 s.id, .int .i64 s.n, .int .i64 s.t, .int .i64 s.v, .int .i64 s.r, .bool (bz s), .bool s.g, .string b, lv] : Array Value).setIfInBounds i v = #[.int .i64 s'.id, .int .i64 s'.n, .int .i64 s'.t, .int .i64 s'.v, .int .i64 s'.r, .bool (bz s'), .bool s'.g, .string b', lv']) : Rf (w.setCell ⟨A, i, none⟩ v) A s' b' lv' := by
  have h' : w.heap[A]? = some (BRf s b lv) := h
  have : (w.setCell ⟨A, i, none⟩ v).heap[A]? = some (.cells ((#[Value.int .i64 s.id, .int .i64 s.n, .int .i64 s.t, .int .i64 s.v, .int .i64 s.r, .bool (bz s), .bool s.g, .string b, lv] : Array Value).setIfInBounds i v) 55) := by
    simp [World.setCell, Array.getElem?_modify, h']
  rw [hv] at this
  exact this
set_option maxRecDepth 100000 in
set_option maxHeartbeats 1000000 in
theorem rcall_no (c : Cl) (A : Nat) (s : Sb) (b : ByteArray) (p : Option Addr) (d : Nat) (w : World) (h : Rf w A s b (.slice p s.L.length d)) (hl : s.L.length ≤ 64) (hc : callE c s ≠ 0) : Calls Tryz.prog 10 #[.pointer (some ⟨A, 0, none⟩), Ks.VC c] w fun e w' => e = .returned (.int .i64 (callE c s)) ∧ Below w.heap.size w w' := by
  obtain ⟨W, hW⟩ : ∃ W, w.alloc (Ks.BC c) = W := ⟨_, rfl⟩
  have HB : Hid (Below w.heap.size w W) := by rw [← hW]; exact below_alloc _ _
  obtain ⟨d0, d1, d2, d3, d4, d5, d6, d7, d8, d9⟩ := Ks.ten_of (heap_alloc_new w (Ks.BC c))
  rw [hW] at d0 d1 d2 d3 d4 d5 d6 d7 d8 d9
  have H : Hid (Rf w A s b (.slice p s.L.length d)) := h
  clear h
  rcases askEr c with hp | hp
  · cases hb : bz s with
    | true =>
      have he : callE c s = 7 := by unfold callE; rw [hp, hb]; rfl
      rw [he]
      clear hc he
      go_enter Tryz.func10, Tryz.ntmps10
      go_wp2_with fail
      refine (Ks.askRefPack_any c _).mono ?_
      rintro e w1 ⟨rfl, hb1⟩
      have HB1 : Hid (Below w.heap.size w w1) := bup HB.out hb1
      rw [hp]
      clear hb1 d0 d1 d2 d3 d4 d5 d6 d7 d8 d9
      obtain ⟨c0, c1, c2, c3, c4, c5, c6, c7, c8⟩ := (H.out.up HB1.out).cells
      rw [hb] at c5
      go_wp2
      go_ret
      exact ⟨rfl, HB1.out⟩
    | false =>
      cases hf : full s with
      | false => exact absurd (by unfold callE; rw [hp, hb, hf]; rfl) hc
      | true =>
        have he : callE c s = 5 := by unfold callE; rw [hp, hb, hf]; rfl
        rw [he]
        clear hc he
        unfold full at hf
        by_cases h64 : s.L.length = 64
        · have h1 : (64 : Int) ≤ ((s.L.length : Nat) : Int) := by omega
          clear hf
          go_enter Tryz.func10, Tryz.ntmps10
          go_wp2_with fail
          refine (Ks.askRefPack_any c _).mono ?_
          rintro e w1 ⟨rfl, hb1⟩
          have HB1 : Hid (Below w.heap.size w w1) := bup HB.out hb1
          rw [hp]
          clear hb1 d0 d1 d2 d3 d4 d5 d6 d7 d8 d9
          obtain ⟨c0, c1, c2, c3, c4, c5, c6, c7, c8⟩ := (H.out.up HB1.out).cells
          rw [hb] at c5
          go_wp2
          go_ret
          exact ⟨rfl, HB1.out⟩
        · have h1 : ¬ (64 : Int) ≤ ((s.L.length : Nat) : Int) := by omega
          have h2 : s.r = 1099511627776 := by
            simp only [Bool.or_eq_true, beq_iff_eq] at hf
            rcases hf with hf | hf
            · exact absurd hf (by omega)
            · exact hf
          clear hf
          go_enter Tryz.func10, Tryz.ntmps10
          go_wp2_with fail
          refine (Ks.askRefPack_any c _).mono ?_
          rintro e w1 ⟨rfl, hb1⟩
          have HB1 : Hid (Below w.heap.size w w1) := bup HB.out hb1
          rw [hp]
          clear hb1 d0 d1 d2 d3 d4 d5 d6 d7 d8 d9
          obtain ⟨c0, c1, c2, c3, c4, c5, c6, c7, c8⟩ := (H.out.up HB1.out).cells
          rw [hb] at c5
          go_wp2
          go_ret
          exact ⟨rfl, HB1.out⟩
  · have he : callE c s = 413 := by unfold callE; rw [hp]; rfl
    rw [he]
    clear hc he
    go_enter Tryz.func10, Tryz.ntmps10
    go_wp2_with fail
    refine (Ks.askRefPack_any c _).mono ?_
    rintro e w1 ⟨rfl, hb1⟩
    have HB1 : Hid (Below w.heap.size w w1) := bup HB.out hb1
    rw [hp]
    clear hb1 d0 d1 d2 d3 d4 d5 d6 d7 d8 d9
    go_wp2
    go_ret
    exact ⟨rfl, HB1.out⟩
set_option maxRecDepth 100000 in
set_option maxHeartbeats 1000000 in
theorem rcall_ok (c : Cl) (A : Nat) (s : Sb) (b : ByteArray) (p : Option Addr) (d : Nat) (w : World) (h : Rf w A s b (.slice p s.L.length d)) (hl : s.L.length ≤ 64) (hr : 0 ≤ s.r ∧ s.r ≤ 1099511627776) (hc : callE c s = 0) : Calls Tryz.prog 10 #[.pointer (some ⟨A, 0, none⟩), Ks.VC c] w fun e w' => e = .returned (.int .i64 0) ∧ Rf w' A (callS c s) (Ks.Ak.packOut c) (.slice p s.L.length d) ∧ Ao A w w' := by
  obtain ⟨W, hW⟩ : ∃ W, w.alloc (Ks.BC c) = W := ⟨_, rfl⟩
  have HB : Hid (Below w.heap.size w W) := by rw [← hW]; exact below_alloc _ _
  obtain ⟨d0, d1, d2, d3, d4, d5, d6, d7, d8, d9⟩ := Ks.ten_of (heap_alloc_new w (Ks.BC c))
  rw [hW] at d0 d1 d2 d3 d4 d5 d6 d7 d8 d9
  have H : Hid (Rf w A s b (.slice p s.L.length d)) := h
  clear h
  obtain ⟨hp, hb, hf⟩ := callE_parts hc
  unfold full at hf
  simp only [Bool.or_eq_false_iff, beq_eq_false_iff_ne, ne_eq] at hf
  have h1 : decide ((64 : Int) ≤ ((s.L.length : Nat) : Int)) = false := decide_eq_false (by omega)
  have h2 : (s.r == 1099511627776) = false := by simpa using hf.2
  have hx : wrap64 (s.r + 1) = s.r + 1 := by unfold wrap64; omega
  have HZ : Hid (bz (callS c s) = true) := bz_call c s
  clear hf hc hr
  go_enter Tryz.func10, Tryz.ntmps10
  go_wp2_with fail
  refine (Ks.askRefPack_any c _).mono ?_
  rintro e w1 ⟨rfl, hb1⟩
  have H1 : Hid (Rf w1 A s b (.slice p s.L.length d) ∧ Ao A w w1) := ⟨H.out.up (bup HB.out hb1), Ao.of (bup HB.out hb1)⟩
  rw [hp]
  clear hb1 d0 d1 d2 d3 d4 d5 d6 d7 d8 d9
  obtain ⟨c0, c1, c2, c3, c4, c5, c6, c7, c8⟩ := H1.out.1.cells
  rw [hb] at c5
  have gg := H1.out.1.fr
  go_wp2
  go_ret
  refine ⟨rfl, ?_, ?_⟩
  · have e1 : w1.heap[A]? = some (BRf s b (.slice p s.L.length d)) := H1.out.1
    unfold Rf BRf
    rw [HZ.out]
    simp [World.setCell, Array.getElem?_modify, e1, callS]
  · exact (((H1.out.2.trans (Ao.set 4 _)).trans (Ao.set 7 _)).trans (Ao.set 5 _)).trans (Ao.set 6 _)
end Go.Proofs.YtkdhbjmpjbdobaaGreatDoor
/- SRefT -/
namespace Go.Proofs.YtkdhbjmpjbdobaaGreatDoor
open Go.ChangeShapes Go.WideShapes Go.ChangeAt Go.RowKit Go.Deep Sk
set_option maxRecDepth 100000
theorem rtick_no (A : Nat) (s : Sb) (b : ByteArray) (lv : Value) (w : World) (h : Rf w A s b lv) (hb : bz s = false) : Calls Tryz.prog 15 #[.pointer (some ⟨A, 0, none⟩)] w fun e w' => e = .returned (.bool false) ∧ w' = w := by
  obtain ⟨c0, c1, c2, c3, c4, c5, c6, c7, c8⟩ := h.cells
  rw [hb] at c5
  clear h
  go_enter Tryz.func15, Tryz.ntmps15
  go_wp2
  go_ret
  exact ⟨rfl, rfl⟩
set_option maxRecDepth 100000 in
set_option maxHeartbeats 1000000 in
theorem rtick_yes {f : Int} (A : Nat) (s : Sb) (b : ByteArray) (lv : Value) (w : World) (h : Rf w A s b lv) (hn : Pn.Is s.n f) (ht : 0 ≤ s.t ∧ s.t ≤ f) (hb : bz s = true) : Calls Tryz.prog 15 #[.pointer (some ⟨A, 0, none⟩)] w fun e w' => e = .returned (.bool true) ∧ Rf w' A (tickS f s) b lv ∧ Ao A w w' := by
  have H : Hid (Rf w A s b lv) := h
  have HN : Hid (Pn.Is s.n f) := hn
  have hf : f ≤ 3 := by unfold Pn.Is at hn; omega
  have HZ : Hid (bz (tickS f s) = true) := hb
  obtain ⟨c0, c1, c2, c3, c4, c5, c6, c7, c8⟩ := h.cells
  have gg := h.fr
  rw [hb] at c5
  clear h hn
  cases hg : s.g with
  | true =>
    rw [hg] at c6
    go_enter Tryz.func15, Tryz.ntmps15
    go_wp2
    go_ret
    refine ⟨rfl, ?_, Ao.set 6 _⟩
    have e1 : w.heap[A]? = some (BRf s b lv) := H.out
    unfold Rf BRf
    rw [HZ.out]
    simp [World.setCell, Array.getElem?_modify, e1, tickS, hg, hb]
  | false =>
    rw [hg] at c6
    have hx : wrap64 (s.t + 1) = s.t + 1 := by unfold wrap64; omega
    obtain ⟨X, hX⟩ : ∃ X, w.setCell ⟨A, 2, none⟩ (.int .i64 (s.t + 1)) = X := ⟨_, rfl⟩
    have HX : Hid (Rf X A { s with t := s.t + 1 } b lv ∧ Ao A w X) := by
      rw [← hX]
      exact ⟨H.out.set rfl, Ao.set 2 _⟩
    have HXX : Hid (w.setCell ⟨A, 2, none⟩ (.int .i64 (s.t + 1)) = X) := hX
    by_cases hl : s.t = f
    · have h1 : f < s.t + 1 := by omega
      have HL : Hid (s.t = f) := hl
      clear hl
      go_enter Tryz.func15, Tryz.ntmps15
      go_wp2_with fail
      clear hX c0 c1 c2 c3 c4 c5 c6 c7 c8 gg
      obtain ⟨c0, c1, c2, c3, c4, c5, c6, c7, c8⟩ := HX.out.1.cells
      dsimp only at c0 c1 c2 c3 c4 c5 c6 c7 c8
      have gg := HX.out.1.fr
      go_quiet ((go_at_call 25; exact Calls.quiet_of_same (refFaults_yes _ HN.out)))
      have HDN : Hid (∀ q, Ao A X (X.drewN q)) := fun q => ⟨rfl, rfl, rfl, Nat.le_refl _, fun _ _ _ => rfl⟩
      go_wp2
      go_ret
      refine ⟨rfl, ?_, ?_⟩
      · have e1 : X.heap[A]? = some (BRf { s with t := s.t + 1 } b lv) := HX.out.1
        unfold Rf BRf
        rw [HZ.out]
        simp [World.setCell, Array.getElem?_modify, e1, tickS, hg, HL.out]
        exact hb
      · exact ((HX.out.2.trans (HDN.out _)).trans (Ao.set 2 _)).trans (Ao.set 6 _)
    · have h1 : ¬ f < s.t + 1 := by omega
      have HL : Hid (¬ s.t = f) := hl
      clear hl
      go_enter Tryz.func15, Tryz.ntmps15
      go_wp2_with fail
      clear hX c0 c1 c2 c3 c4 c5 c6 c7 c8 gg
      obtain ⟨c0, c1, c2, c3, c4, c5, c6, c7, c8⟩ := HX.out.1.cells
      dsimp only at c0 c1 c2 c3 c4 c5 c6 c7 c8
      have gg := HX.out.1.fr
      go_quiet ((go_at_call 25; exact Calls.quiet_of_same (refFaults_yes _ HN.out)))
      have HDN : Hid (∀ q, Ao A X (X.drewN q)) := fun q => ⟨rfl, rfl, rfl, Nat.le_refl _, fun _ _ _ => rfl⟩
      go_wp2
      go_ret
      refine ⟨rfl, ?_, ?_⟩
      · have e1 : X.heap[A]? = some (BRf { s with t := s.t + 1 } b lv) := HX.out.1
        unfold Rf BRf
        rw [HZ.out]
        simp [World.setCell, Array.getElem?_modify, e1, tickS, hg, HL.out]
        exact hb
      · exact (HX.out.2.trans (HDN.out _)).trans (Ao.set 6 _)
end Go.Proofs.YtkdhbjmpjbdobaaGreatDoor
/- WPut -/
namespace Go.Proofs.YtkdhbjmpjbdobaaGreatDoor
open Go.ChangeShapes Go.WideShapes Go.ChangeAt Go.RowKit Go.Deep Me
set_option maxRecDepth 100000
theorem infoMr : (Tryz.prog.info? 95).map (·.size) = some 15 := by kernel_rfl
theorem there_mr {w : World} {A : Nat} {m : Mm} {u z : Value} (h : w.heap[A]? = some (BMr m u z)) : w.there A 0 15 := fun j hj => by
  refine ⟨?_, by simp [World.frozen?, h]⟩
  have hs : j < (#[Value.int .i64 m.k, .int .i64 m.v, .int .i64 m.n, .int .i64 m.o, .int .i64 m.c, .int .i64 m.b, .int .i64 m.l, .int .i64 m.cl, u, z, .int .i64 m.mo, .int .i64 m.ms, .int .i64 m.mm, .int .i64 m.nu, .string m.d] : Array Value).size := hj
  simp only [World.cell?, h, Nat.zero_add, Option.isSome_none, Bool.false_eq_true, if_false]
  rw [Array.getElem?_eq_getElem hs]
  rfl
theorem grown_cells (A : Nat) : ∀ (vs : List Value) (o : Nat) (w : World), w.grownBy (w.setCells A o vs) (some A)
  | [], _, _ => grown_refl _ _
  | v :: vs, o, w => grown_trans (grown_set1 w A o v) (grown_cells A vs (o + 1) _)
theorem put_mr {w : World} {A : Nat} {m0 : Mm} {u0 z0 : Value} (h : w.heap[A]? = some (BMr m0 u0 z0)) (m : Mm) (u z : Value) : (w.setCells A 0 [.int .i64 m.k, .int .i64 m.v, .int .i64 m.n, .int .i64 m.o, .int .i64 m.c, .int .i64 m.b, .int .i64 m.l, .int .i64 m.cl, u, z, .int .i64 m.mo, .int .i64 m.ms, .int .i64 m.mm, .int .i64 m.nu, .string m.d]).heap[A]? = some (BMr m u z) := by
  simp [World.setCells, World.setCell, Array.getElem?_modify, h]
theorem wpList_put15 {ops : Array Oper} {rest : List Oper} {op : Oper} {a : Act} {w : World} {Q : Exit → Act → World → Prop} (hgd : op.guard = none) (x y : Operand) (ho : op.op = .store 95 x y)
    (A : Nat) (m : Mm) (p1 : Option Addr) (n1 d1 : Nat) (p2 : Option Addr) (n2 d2 : Nat) (hx : a.eval x = .pointer (some ⟨A, 0, none⟩)) (hy : a.eval y = VM m (.slice p1 n1 d1) (.slice p2 n2 d2))
    {m0 : Mm} {u0 z0 : Value} (hA : w.heap[A]? = some (BMr m0 u0 z0))
    (h : ∀ W, w.grownBy W (some A) → W.heap[A]? = some (BMr m (.slice p1 n1 d1) (.slice p2 n2 d2)) → wpList Tryz.prog ops Q rest (a.put op.dst undef) W) : wpList Tryz.prog ops Q (op :: rest) a w :=
  wpList_store_mid hgd 95 x y ho A 0 _ hx hy (there_mr hA) infoMr (all_oneCell_toArray (fun v hv => by simp at hv; rcases hv with rfl | rfl | rfl | rfl | rfl | rfl | rfl | rfl | rfl | rfl | rfl | rfl | rfl | rfl | rfl <;> rfl)) (h _ (grown_cells A _ 0 w) (put_mr hA m _ _))
end Go.Proofs.YtkdhbjmpjbdobaaGreatDoor
