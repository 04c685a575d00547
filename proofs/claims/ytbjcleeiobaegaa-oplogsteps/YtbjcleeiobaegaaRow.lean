/-
  A slice of items that the program itself made, wherever it begins and however it was cut: what it holds, and append onto it. No program.
-/
import Derived.WalkKit
import Derived.Deep.AppendSrc
import Derived.WalkSmall
import Derived.BigQuiet
import Derived.Deep.QuietTactic
import Derived.Test.YtbjcleeiobaegaaPlain
namespace Go.Proofs.Ytbjcleeiobaegaa
open Go.RowKit

theorem grown_refl (w : World) (row : Option Nat) : w.grownBy w row := ⟨rfl, rfl, rfl, Nat.le_refl _, fun _ _ _ => rfl⟩
theorem grown_trans {a b c : World} {row : Option Nat} (h : a.grownBy b row) (k : b.grownBy c row) : a.grownBy c row :=
  ⟨k.os.trans h.os, k.tape.trans h.tape, k.output.trans h.output, Nat.le_trans h.size k.size, fun i hi hr => (k.block i (Nat.lt_of_lt_of_le hi h.size) hr).trans (h.block i hi hr)⟩
theorem grown_of_below {w w' : World} (h : Below w.heap.size w w') (row : Option Nat) : w.grownBy w' row := ⟨h.os, h.tape, h.output, h.size, fun k hk _ => h.block k hk⟩
theorem below_none {B : Nat} {w w' : World} (h : w.grownBy w' none) (hs : B ≤ w.heap.size) : Below B w w' := (Below.refl B w).grown h hs (fun k hk => by cases hk)
theorem grown_any {w W : World} (h : w.grownBy W none) (row : Option Nat) : w.grownBy W row := ⟨h.os, h.tape, h.output, h.size, fun k hk _ => h.block k hk (by simp)⟩
theorem grown_drew {w W : World} {row : Option Nat} (h : w.grownBy W row) (q : Nat) : w.grownBy (W.drewN q) row := ⟨h.os, h.tape, h.output, h.size, h.block⟩
theorem grown_set {w W : World} (h : w.grownBy W none) {a : Addr} (ha : w.heap.size ≤ a.block) (u : Value) : w.grownBy (W.setCell a u) none :=
  ⟨h.os, h.tape, h.output, by rw [show (W.setCell a u).heap.size = W.heap.size by simp [World.setCell]]; exact h.size, fun k hk hn => (Below.heap_setCell _ _ _ _ (by omega)).trans (h.block k hk hn)⟩

/-- The four cells of one item. -/
def fourAt (w : World) (b o : Nat) (x : Ol.It) : Prop :=
  w.cell? ⟨b, o, none⟩ = some (.int .i64 x.1) ∧ w.cell? ⟨b, o + 1, none⟩ = some (.int .i64 x.2.1) ∧ w.cell? ⟨b, o + 2, none⟩ = some (.int .i64 x.2.2.1) ∧ w.cell? ⟨b, o + 3, none⟩ = some (.string x.2.2.2)
theorem fourAt.below {w w' : World} {b o B : Nat} {x : Ol.It} (h : fourAt w b o x) (hb : Below B w w') (hB : b < B) : fourAt w' b o x := by
  obtain ⟨h0, h1, h2, h3⟩ := h
  exact ⟨(hb.cell (p := ⟨b, o, none⟩) hB).trans h0, (hb.cell (p := ⟨b, o + 1, none⟩) hB).trans h1, (hb.cell (p := ⟨b, o + 2, none⟩) hB).trans h2, (hb.cell (p := ⟨b, o + 3, none⟩) hB).trans h3⟩
/-- The value v stands for the list l of items. -/
def ItemsAt (w : World) (v : Value) (l : List Ol.It) : Prop :=
  (∃ ao cap, v = .slice ao 0 cap ∧ l = []) ∨
  (∃ b off cap, v = .slice (some ⟨b, off, none⟩) l.length cap ∧ b < w.heap.size ∧ 0 < l.length ∧ l.length ≤ cap ∧ cap ≤ maxLen ∧
    ∀ i, i < l.length → fourAt w b (off + i * 4) (l.getD i Ol.d0))
theorem ItemsAt.below {w w' : World} {v : Value} {l : List Ol.It} {B : Nat} (h : ItemsAt w v l) (hb : Below B w w') (hB : w.heap.size ≤ B) : ItemsAt w' v l := by
  rcases h with h | ⟨b, off, cap, rfl, hlt, hp, hc, hm, hx⟩
  · exact .inl h
  · exact .inr ⟨b, off, cap, rfl, Nat.lt_of_lt_of_le hlt hb.size, hp, hc, hm, fun i hi => (hx i hi).below hb (by omega)⟩
theorem ItemsAt.open {w : World} {v : Value} {l : List Ol.It} (h : ItemsAt w v l) : ∃ ao cap, v = .slice ao l.length cap ∧ l.length ≤ maxLen ∧ ∀ j, j < l.length → ∃ b off, ao = some ⟨b, off, none⟩ ∧ b < w.heap.size ∧ fourAt w b (off + j * 4) (l.getD j Ol.d0) := by
  rcases h with ⟨ao, cap, rfl, rfl⟩ | ⟨b, off, cap, rfl, hlt, _, hc, hm, hx⟩
  · exact ⟨ao, cap, rfl, by simp, fun j hj => by simp at hj⟩
  · exact ⟨_, cap, rfl, by omega, fun j hj => ⟨b, off, rfl, hlt, hx j hj⟩⟩
theorem cells_of_fours {w : World} {b off : Nat} : ∀ (l : List Ol.It), (∀ i, i < l.length → fourAt w b (off + i * 4) (l.getD i Ol.d0)) → ∀ j u, (Ol.cells l)[j]? = some u → w.cell? ((⟨b, off, none⟩ : Addr).add j) = some u := by
  intro l hx j u hj
  have hlt : j < (Ol.cells l).length := (List.getElem?_eq_some_iff.1 hj).1
  rw [Ol.cells_length] at hlt
  rw [WideShapes.add_plain]
  have hi : j / 4 < l.length := by omega
  obtain ⟨a0, a1, a2, a3⟩ := Ol.cells_at l (j / 4) hi
  obtain ⟨c0, c1, c2, c3⟩ := hx (j / 4) hi
  have hj4 : j = j / 4 * 4 ∨ j = j / 4 * 4 + 1 ∨ j = j / 4 * 4 + 2 ∨ j = j / 4 * 4 + 3 := by omega
  rcases hj4 with e | e | e | e
  · rw [e] at hj ⊢
    rw [a0] at hj
    cases hj
    exact c0
  · rw [e] at hj ⊢
    rw [a1] at hj
    cases hj
    rw [← Nat.add_assoc]
    exact c1
  · rw [e] at hj ⊢
    rw [a2] at hj
    cases hj
    rw [← Nat.add_assoc]
    exact c2
  · rw [e] at hj ⊢
    rw [a3] at hj
    cases hj
    rw [← Nat.add_assoc]
    exact c3
theorem ItemsAt.src {P : Program} {w : World} {v : Value} {l : List Ol.It} {t e : TypeId} (hk : P.underlying t = some (.slice e)) (h : ItemsAt w v l) : Src P 4 t v l.length (Ol.cells l) w := by
  rcases h with ⟨ao, cap, rfl, rfl⟩ | ⟨b, off, cap, rfl, hlt, _, hc, hm, hx⟩
  · cases ao with
    | none => exact Src.ofNil w hk cap
    | some a => exact Src.ofSlice w hk a 0 cap [] rfl (fun j u hj => by simp at hj) (fun u hu => by cases hu)
  · exact Src.ofSlice w hk _ _ cap _ (Ol.cells_length l) (cells_of_fours l hx) (Ol.cells_one' l)

/-- A slice of items in the program's own memory, from block B on; elements of type e. -/
def Row (w : World) (B : Nat) (e : TypeId) (v : Value) (ls : List Ol.It) : Prop :=
  (v = .slice none 0 0 ∧ ls = []) ∨
  ∃ g off cap cur, v = .slice (some ⟨g, off, none⟩) ls.length cap ∧ B ≤ g ∧ w.heap[g]? = some (.cells cur e (0, 0)) ∧ ls.length ≤ cap ∧ cap ≤ maxLen ∧ off + cap * 4 ≤ cur.size ∧ (cur.toList.drop off).take (ls.length * 4) = Ol.cells ls
theorem Row.nil (w : World) (B : Nat) (e : TypeId) : Row w B e (.slice none 0 0) [] := .inl ⟨rfl, rfl⟩
theorem Row.slice {w : World} {B : Nat} {e : TypeId} {v : Value} {ls : List Ol.It} (h : Row w B e v ls) : ∃ p c, v = .slice p ls.length c := by
  rcases h with ⟨rfl, rfl⟩ | ⟨g, off, cap, cur, rfl, _⟩
  · exact ⟨_, _, rfl⟩
  · exact ⟨_, _, rfl⟩
theorem Row.lt {w : World} {B : Nat} {e : TypeId} {v : Value} {ls : List Ol.It} (h : Row w B e v ls) : ∀ k, v.ownBlock = some k → B ≤ k ∧ k < w.heap.size := by
  rcases h with ⟨rfl, rfl⟩ | ⟨g, off, cap, cur, rfl, hB, hg, _⟩
  · intro k hk; simp [Value.ownBlock] at hk
  · intro k hk
    simp [Value.ownBlock] at hk
    subst hk
    exact ⟨hB, (Array.getElem?_eq_some_iff.1 hg).1⟩
theorem Row.kept {w w' : World} {B : Nat} {e : TypeId} {v : Value} {ls : List Ol.It} {row : Option Nat} (h : Row w B e v ls) (hg : w.grownBy w' row) (hne : v.ownBlock = none ∨ v.ownBlock ≠ row) : Row w' B e v ls := by
  rcases h with h | ⟨g, off, cap, cur, rfl, hB, hh, h1, h2, h3, h4⟩
  · exact .inl h
  · refine .inr ⟨g, off, cap, cur, rfl, hB, ?_, h1, h2, h3, h4⟩
    rw [hg.block g (Array.getElem?_eq_some_iff.1 hh).1 ?_, hh]
    rcases hne with hne | hne
    · simp [Value.ownBlock] at hne
    · simpa [Value.ownBlock] using hne
theorem Row.still {w w' : World} {B : Nat} {e : TypeId} {v : Value} {ls : List Ol.It} (h : Row w B e v ls) (hg : w.grownBy w' none) : Row w' B e v ls := h.kept hg (by cases hv : v.ownBlock <;> simp)
theorem Row.drew {w : World} {B : Nat} {e : TypeId} {v : Value} {ls : List Ol.It} (h : Row w B e v ls) : Row w.drew B e v ls := h
theorem Row.mono {w : World} {B C : Nat} {e : TypeId} {v : Value} {ls : List Ol.It} (h : Row w B e v ls) (hC : C ≤ B) : Row w C e v ls := by
  rcases h with h | ⟨g, off, cap, cur, rfl, hB, hh⟩
  · exact .inl h
  · exact .inr ⟨g, off, cap, cur, rfl, by omega, hh⟩
theorem Row.items {w : World} {B : Nat} {e : TypeId} {v : Value} {ls : List Ol.It} (h : Row w B e v ls) : ItemsAt w v ls := by
  rcases h with ⟨rfl, rfl⟩ | ⟨g, off, cap, cur, rfl, hB, hh, h1, h2, h3, h4⟩
  · exact .inl ⟨_, _, rfl, rfl⟩
  · by_cases hp : 0 < ls.length
    · refine .inr ⟨g, off, cap, rfl, (Array.getElem?_eq_some_iff.1 hh).1, hp, h1, h2, fun i hi => ?_⟩
      obtain ⟨a0, a1, a2, a3⟩ := Ol.cells_at ls i hi
      rw [← h4] at a0 a1 a2 a3
      rw [List.getElem?_take_of_lt (by omega), List.getElem?_drop, Array.getElem?_toList] at a0 a1 a2 a3
      refine ⟨?_, ?_, ?_, ?_⟩ <;> simp only [World.cell?, hh, Option.isSome_none, Bool.false_eq_true, if_false]
      · exact a0
      · rw [Nat.add_assoc]; exact a1
      · rw [Nat.add_assoc]; exact a2
      · rw [Nat.add_assoc]; exact a3
    · have : ls = [] := List.eq_nil_of_length_eq_zero (by omega)
      subst this
      exact .inl ⟨_, _, rfl, rfl⟩
/-- The first k, with whatever capacity. -/
theorem Row.take {w : World} {B g off cap n : Nat} {e : TypeId} {ls : List Ol.It} (h : Row w B e (.slice (some ⟨g, off, none⟩) n cap) ls) {k c : Nat} (hk : k ≤ ls.length) (hkc : k ≤ c) (hc : c ≤ cap) : Row w B e (.slice (some ⟨g, off, none⟩) k c) (ls.take k) := by
  rcases h with ⟨h, _⟩ | ⟨g', off', cap', cur, hv, hB, hh, h1, h2, h3, h4⟩
  · cases h
  · simp only [Value.slice.injEq, Option.some.injEq, Addr.mk.injEq, and_true] at hv
    obtain ⟨⟨rfl, rfl⟩, rfl, rfl⟩ := hv
    have hl : (ls.take k).length = k := by simp; omega
    refine .inr ⟨g, off, c, cur, by rw [hl], hB, hh, by omega, by omega, by omega, ?_⟩
    rw [hl, ← Ol.cells_take, ← h4, List.take_take, Nat.min_eq_left (by omega)]
/-- All behind the first k. -/
theorem Row.drop {w : World} {B g off cap n : Nat} {e : TypeId} {ls : List Ol.It} (h : Row w B e (.slice (some ⟨g, off, none⟩) n cap) ls) {k c : Nat} (hk : k ≤ ls.length) (hc : k + c ≤ cap) (hlc : ls.length ≤ k + c) : Row w B e (.slice (some ⟨g, off + k * 4, none⟩) (ls.length - k) c) (ls.drop k) := by
  rcases h with ⟨h, _⟩ | ⟨g', off', cap', cur, hv, hB, hh, h1, h2, h3, h4⟩
  · cases h
  · simp only [Value.slice.injEq, Option.some.injEq, Addr.mk.injEq, and_true] at hv
    obtain ⟨⟨rfl, rfl⟩, rfl, rfl⟩ := hv
    have hl : (ls.drop k).length = ls.length - k := by simp
    refine .inr ⟨g, off + k * 4, c, cur, by rw [hl], hB, hh, by omega, by omega, by omega, ?_⟩
    rw [hl, ← Ol.cells_drop, ← h4, List.drop_take, List.drop_drop]
    congr 1
    omega
section
variable {P : Program} (w : World)
theorem Row.append_run (B : Nat) (t ty e : TypeId) (i : TypeInfo) (z : Value) (bytes : Nat) (ht : P.underlying t = some (.slice e)) (hi : P.info? e = some i) (hz : i.zero = some z) (hsize : i.size = 4) (hby : i.bytes = bytes) (hzs : z.cells.size = 4)
    (v : Value) (ls : List Ol.It) (hrow : Row w B e v ls) (x : Value) (xs : List Ol.It) (hx : ItemsAt w x xs) (h63 : ls.length + xs.length ≤ maxLen) (hbytes : (ls.length + xs.length) * bytes ≤ 140737488355328) (hbase : B ≤ w.heap.size) :
    ∃ v' w', (Builtin.append_ #[t, t] ty #[v, x]).run P w = .ok v' w' ∧ Row w' B e v' (ls ++ xs) ∧ w.grownBy w' v.ownBlock ∧ (v'.ownBlock = v.ownBlock ∨ ∀ j, v'.ownBlock = some j → w.heap.size ≤ j) := by
  have hs : Src P i.size t x xs.length (Ol.cells xs) w := by rw [hsize]; exact hx.src ht
  have hl := Ol.cells_length xs
  have hll := Ol.cells_length ls
  have hlen : (Ol.cells (ls ++ xs)).length = (ls.length + xs.length) * 4 := by rw [Ol.cells_length]; simp
  have hsmall : ls.length + xs.length ≤ 9223372036854775807 := by simp only [maxLen] at h63; omega
  subst hby
  have grown : ∀ (old : Nat), old < ls.length + xs.length → ∀ (row : Option Nat),
      Row (w.drew.alloc (.cells ((Ol.cells ls ++ Ol.cells xs).toArray ++ Builtin.zeroCells z.cells (grownCap w (ls.length + xs.length) old e - (ls.length + xs.length))) e)) B e
        (.slice (some ⟨w.heap.size, 0, none⟩) (ls.length + xs.length) (grownCap w (ls.length + xs.length) old e)) (ls ++ xs) ∧
      w.grownBy (w.drew.alloc (.cells ((Ol.cells ls ++ Ol.cells xs).toArray ++ Builtin.zeroCells z.cells (grownCap w (ls.length + xs.length) old e - (ls.length + xs.length))) e)) row := by
    intro old ho row
    have hge := grownCap_ge w (ls.length + xs.length) old e
    have hcm : grownCap w (ls.length + xs.length) old e ≤ maxLen := grownCap_le_maxLen w (ls.length + xs.length) old e h63
    refine ⟨.inr ⟨w.heap.size, 0, _, _, by simp, hbase, heap_alloc_new w.drew _, by simpa using hge, hcm, ?_, ?_⟩, ⟨rfl, rfl, rfl, by simp, fun k hk _ => Below.heap_alloc w.drew _ k hk⟩⟩
    · simp only [Array.size_append, List.size_toArray, List.length_append, size_zeroCells, hzs, hl, hll]
      omega
    · simp only [Array.toList_append, List.drop_zero]
      rw [Ol.cells_append, show (ls ++ xs).length * 4 = (Ol.cells ls ++ Ol.cells xs).length from by simp only [List.length_append, hl, hll]; omega]
      exact List.take_left
  rcases hrow with ⟨rfl, rfl⟩ | ⟨g, off, cap, cur, rfl, hB, hg, h1, h2, h3, h4⟩
  · by_cases hm : xs.length = 0
    · have hxs : xs = [] := List.eq_nil_of_length_eq_zero hm
      subst hxs
      refine ⟨.slice none 0 0, w, ?_, Row.nil w B e, grown_refl _ _, .inl rfl⟩
      rcases hs.kind with ⟨e', hk⟩ | hk
      · have hsl := hs.len
        have hsc := hs.cells
        simp only [List.length_nil] at hsl hsc
        simp [Builtin.append_, run_underlying ht, sizeOf, typeInfo, hi, hsl, hsc, Ol.cells]
      · rw [ht] at hk; cases hk
    · have hr := run_append_grow_src (P := P) w t t ty e i z ht hi hz none 0 0 [] (run_firstCells_none w.drew _ _ _ _) x xs.length (Ol.cells xs) hs (by omega) (by omega) (growslice_fits (by omega) (by simpa using hbytes))
      have hgr := grown 0 (by simp; omega) (Value.ownBlock (.slice none 0 0))
      simp only [List.length_nil, Nat.zero_add, Ol.cells, List.flatMap_nil, List.nil_append] at hgr hr ⊢
      exact ⟨_, _, hr, hgr.1, hgr.2, .inr (fun j hj => by simp [Value.ownBlock] at hj; omega)⟩
  · by_cases hroom : ls.length + xs.length ≤ cap
    · have hfit : off + ls.length * i.size + (Ol.cells xs).length ≤ cur.size := by rw [hl, hsize]; omega
      have hst := run_storeCells_at P g (off + ls.length * i.size) e (Ol.cells xs) 0 cur w hg (by simpa using hfit) hs.one
      simp only [Nat.add_zero] at hst
      have hr : (Builtin.append_ #[t, t] ty #[.slice (some ⟨g, off, none⟩) ls.length cap, x]).run P w = .ok (.slice (some ⟨g, off, none⟩) (ls.length + xs.length) cap) (w.setRow g (cur.toList.take (off + ls.length * i.size) ++ Ol.cells xs ++ cur.toList.drop (off + ls.length * i.size + (Ol.cells xs).length)).toArray) := by
        simp [Builtin.append_, run_underlying ht, sizeOf, typeInfo, hi, hs.len, hroom, hs.cells, Addr.add_lit, hst]
      refine ⟨_, _, hr, .inr ⟨g, off, cap, _, by simp, hB, setRow_heap w g cur _ e _ hg, by simpa using hroom, h2, ?_, ?_⟩, ⟨rfl, rfl, rfl, by simp, fun k _ hk => setRow_other w g k _ (fun e => hk (by simp [Value.ownBlock, e]))⟩, .inl rfl⟩
      · simp only [List.size_toArray, List.length_append, List.length_take, List.length_drop, Array.length_toList]
        omega
      · rw [hsize, List.append_assoc]
        have hcl : (cur.toList.take (off + ls.length * 4)).length = off + ls.length * 4 := by
          simp only [List.length_take, Array.length_toList]
          rw [hl, hsize] at hfit
          omega
        rw [List.drop_append_of_le_length (by omega), List.drop_take, Nat.add_sub_cancel_left, h4, Ol.cells_append, ← List.append_assoc, show (ls ++ xs).length * 4 = (Ol.cells ls ++ Ol.cells xs).length from by simp only [List.length_append, hl, hll]; omega]
        exact List.take_left
    · have hi2 := (show Row w B e (.slice (some ⟨g, off, none⟩) ls.length cap) ls from .inr ⟨g, off, cap, cur, rfl, hB, hg, h1, h2, h3, h4⟩).items
      have holds : ∀ j u, (Ol.cells ls)[j]? = some u → w.cell? ((⟨g, off, none⟩ : Addr).add j) = some u := by
        rcases hi2 with ⟨ao, c, he, h0⟩ | ⟨b, o, c, he, _, _, _, _, hx'⟩
        · subst h0
          intro j u hj
          simp [Ol.cells] at hj
        · simp only [Value.slice.injEq, Option.some.injEq, Addr.mk.injEq, and_true, true_and] at he
          obtain ⟨⟨rfl, rfl⟩, rfl⟩ := he
          exact cells_of_fours ls hx'
      have hr := run_append_grow_src (P := P) w t t ty e i z ht hi hz (some ⟨g, off, none⟩) ls.length cap (Ol.cells ls) (run_firstCells_some w.drew _ _ _ _ _ (Ol.cells ls) (by rw [hsize]; exact hll) (by simpa using holds)) x xs.length (Ol.cells xs) hs (by omega) (by omega) (growslice_fits (by omega) hbytes)
      have hgr := grown cap (by omega) (Value.ownBlock (.slice (some ⟨g, off, none⟩) ls.length cap))
      exact ⟨_, _, hr, hgr.1, hgr.2, .inr (fun j hj => by simp [Value.ownBlock] at hj; omega)⟩

theorem wpList_row {ops : Array Oper} {rest : List Oper} {o : Oper} {a : Act} {Q : Exit → Act → World → Prop} (hgd : o.guard = none) (s x : Operand) (t : TypeId)
    (ho : o.op = .call { callee := .builtin .append, args := #[s, x], argTypes := #[t, t] })
    (B : Nat) (e : TypeId) (i : TypeInfo) (z : Value) (bytes : Nat) (ht : P.underlying t = some (.slice e)) (hi : P.info? e = some i) (hz : i.zero = some z) (hsize : i.size = 4) (hby : i.bytes = bytes) (hzs : z.cells.size = 4)
    (v : Value) (ls : List Ol.It) (hv : a.eval s = v) (hrow : Row w B e v ls) (xv : Value) (xs : List Ol.It) (hxv : a.eval x = xv) (hx : ItemsAt w xv xs) (h63 : ls.length + xs.length ≤ maxLen) (hbytes : (ls.length + xs.length) * bytes ≤ 140737488355328) (hbase : B ≤ w.heap.size)
    (h : ∀ v' w', Row w' B e v' (ls ++ xs) → w.grownBy w' v.ownBlock → (v'.ownBlock = v.ownBlock ∨ ∀ j, v'.ownBlock = some j → w.heap.size ≤ j) → wpList P ops Q rest (a.put o.dst v') w') : wpList P ops Q (o :: rest) a w :=
  wpList_plain hgd fun _ hK => by
    obtain ⟨v', w', hr, h2, h3, h4⟩ := Row.append_run (P := P) w B t o.type e i z bytes ht hi hz hsize hby hzs v ls hrow xv xs hx h63 hbytes hbase
    unfold Oper.wp execOp
    simp only [ho, resolve, invoke, builtin, Sem.run_bind, Sem.run_pure, Result.andThen_ok, List.map_toArray, List.map_cons, List.map_nil, hv, hxv, hr]
    exact hK _ _ (h v' w' h2 h3 h4)
theorem step_row {ops : Array Oper} {o : Oper} {a : Act} {K : Act → World → Prop} {Q : Exit → Act → World → Prop} {E : Prop} (hgd : o.guard = none) (s x : Operand) (t : TypeId)
    (ho : o.op = .call { callee := .builtin .append, args := #[s, x], argTypes := #[t, t] })
    (B : Nat) (e : TypeId) (i : TypeInfo) (z : Value) (bytes : Nat) (ht : P.underlying t = some (.slice e)) (hi : P.info? e = some i) (hz : i.zero = some z) (hsize : i.size = 4) (hby : i.bytes = bytes) (hzs : z.cells.size = 4)
    (v : Value) (ls : List Ol.It) (hv : a.eval s = v) (hrow : Row w B e v ls) (xv : Value) (xs : List Ol.It) (hxv : a.eval x = xv) (hx : ItemsAt w xv xs) (h63 : ls.length + xs.length ≤ maxLen) (hbytes : (ls.length + xs.length) * bytes ≤ 140737488355328) (hbase : B ≤ w.heap.size)
    (h : ∀ v' w', Row w' B e v' (ls ++ xs) → w.grownBy w' v.ownBlock → (v'.ownBlock = v.ownBlock ∨ ∀ j, v'.ownBlock = some j → w.heap.size ≤ j) → K (a.put o.dst v') w') :
    if Region.wanted o (yielded ops a.tmps) = true then Oper.wp P o a w K Q else E := by
  have hw : Region.wanted o (yielded ops a.tmps) = true := by simp [Region.wanted, hgd]
  rw [if_pos hw]
  obtain ⟨v', w', hr, h2, h3, h4⟩ := Row.append_run (P := P) w B t o.type e i z bytes ht hi hz hsize hby hzs v ls hrow xv xs hx h63 hbytes hbase
  unfold Oper.wp execOp
  simp only [ho, resolve, invoke, builtin, Sem.run_bind, Sem.run_pure, Result.andThen_ok, List.map_toArray, List.map_cons, List.map_nil, hv, hxv, hr]
  exact h v' w' h2 h3 h4
end
end Go.Proofs.Ytbjcleeiobaegaa
