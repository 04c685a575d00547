/-
  Append onto a slice of items, up to twice as many bytes.
-/
import Derived.Test.YtbjcleeiobaegaaRefE
import Derived.Deep.DeepAppendWide
namespace Go.Proofs.Ytbjcleeiobaegaa
open Go.RowKit
section
variable {P : Program} (w : World)
theorem Row.append_runW (B : Nat) (t ty e : TypeId) (i : TypeInfo) (z : Value) (bytes : Nat) (ht : P.underlying t = some (.slice e)) (hi : P.info? e = some i) (hz : i.zero = some z) (hsize : i.size = 4) (hby : i.bytes = bytes) (hzs : z.cells.size = 4)
    (v : Value) (ls : List Ol.It) (hrow : Row w B e v ls) (x : Value) (xs : List Ol.It) (hx : ItemsAt w x xs) (h63 : ls.length + xs.length ≤ maxLen) (hbytes : (ls.length + xs.length + (ls.length + xs.length) / 4 + 192) * bytes ≤ 281474976710656) (hbase : B ≤ w.heap.size) :
    ∃ v' w', (Builtin.append_ #[t, t] ty #[v, x]).run P w = .ok v' w' ∧ Row w' B e v' (ls ++ xs) ∧ w.grownBy w' v.ownBlock ∧ (v'.ownBlock = v.ownBlock ∨ ∀ j, v'.ownBlock = some j → w.heap.size ≤ j) := by
  have hs : Src P i.size t x xs.length (Ol.cells xs) w := by rw [hsize]; exact hx.src ht
  have hl := Ol.cells_length xs
  have hll := Ol.cells_length ls
  have hlen : (Ol.cells (ls ++ xs)).length = (ls.length + xs.length) * 4 := by rw [Ol.cells_length]; simp
  have hsmall : ls.length + xs.length ≤ 9223372036854775807 := by simp only [maxLen] at h63; omega
  subst hby
  have grown : ∀ (old : Nat), old < ls.length + xs.length → ∀ (row : Option Nat),
      Row (w.drew.alloc (.cells ((Ol.cells ls ++ Ol.cells xs).toArray ++ Builtin.zeroCells z.cells (grownCap w (ls.length + xs.length) old e - (ls.length + xs.length))) e)) B e
        (.slice (some ⟨w.heap.size, 0, none⟩) (ls.length + xs.length) (grownCap w (ls.length + xs.length) old e)) (ls ++ xs) ∧
      w.grownBy (w.drew.alloc (.cells ((Ol.cells ls ++ Ol.cells xs).toArray ++ Builtin.zeroCells z.cells (grownCap w (ls.length + xs.length) old e - (ls.length + xs.length))) e)) row := by
    intro old ho row
    have hge := grownCap_ge w (ls.length + xs.length) old e
    have hcm : grownCap w (ls.length + xs.length) old e ≤ maxLen := grownCap_le_maxLen w (ls.length + xs.length) old e h63
    refine ⟨.inr ⟨w.heap.size, 0, _, _, by simp, hbase, heap_alloc_new w.drew _, by simpa using hge, hcm, ?_, ?_⟩, ⟨rfl, rfl, rfl, by simp, fun k hk _ => Below.heap_alloc w.drew _ k hk⟩⟩
    · simp only [Array.size_append, List.size_toArray, List.length_append, size_zeroCells, hzs, hl, hll]
      omega
    · simp only [Array.toList_append, List.drop_zero]
      rw [Ol.cells_append, show (ls ++ xs).length * 4 = (Ol.cells ls ++ Ol.cells xs).length from by simp only [List.length_append, hl, hll]; omega]
      exact List.take_left
  rcases hrow with ⟨rfl, rfl⟩ | ⟨g, off, cap, cur, rfl, hB, hg, h1, h2, h3, h4⟩
  · by_cases hm : xs.length = 0
    · have hxs : xs = [] := List.eq_nil_of_length_eq_zero hm
      subst hxs
      refine ⟨.slice none 0 0, w, ?_, Row.nil w B e, grown_refl _ _, .inl rfl⟩
      rcases hs.kind with ⟨e', hk⟩ | hk
      · have hsl := hs.len
        have hsc := hs.cells
        simp only [List.length_nil] at hsl hsc
        simp [Builtin.append_, run_underlying ht, sizeOf, typeInfo, hi, hsl, hsc, Ol.cells]
      · rw [ht] at hk; cases hk
    · have hr := run_append_grow_src (P := P) w t t ty e i z ht hi hz none 0 0 [] (run_firstCells_none w.drew _ _ _ _) x xs.length (Ol.cells xs) hs (by omega) (by omega) (growslice_fits_wide (by omega) (by simpa using hbytes))
      have hgr := grown 0 (by simp; omega) (Value.ownBlock (.slice none 0 0))
      simp only [List.length_nil, Nat.zero_add, Ol.cells, List.flatMap_nil, List.nil_append] at hgr hr ⊢
      exact ⟨_, _, hr, hgr.1, hgr.2, .inr (fun j hj => by simp [Value.ownBlock] at hj; omega)⟩
  · by_cases hroom : ls.length + xs.length ≤ cap
    · have hfit : off + ls.length * i.size + (Ol.cells xs).length ≤ cur.size := by rw [hl, hsize]; omega
      have hst := run_storeCells_at P g (off + ls.length * i.size) e (Ol.cells xs) 0 cur w hg (by simpa using hfit) hs.one
      simp only [Nat.add_zero] at hst
      have hr : (Builtin.append_ #[t, t] ty #[.slice (some ⟨g, off, none⟩) ls.length cap, x]).run P w = .ok (.slice (some ⟨g, off, none⟩) (ls.length + xs.length) cap) (w.setRow g (cur.toList.take (off + ls.length * i.size) ++ Ol.cells xs ++ cur.toList.drop (off + ls.length * i.size + (Ol.cells xs).length)).toArray) := by
        simp [Builtin.append_, run_underlying ht, sizeOf, typeInfo, hi, hs.len, hroom, hs.cells, Addr.add_lit, hst]
      refine ⟨_, _, hr, .inr ⟨g, off, cap, _, by simp, hB, setRow_heap w g cur _ e _ hg, by simpa using hroom, h2, ?_, ?_⟩, ⟨rfl, rfl, rfl, by simp, fun k _ hk => setRow_other w g k _ (fun e => hk (by simp [Value.ownBlock, e]))⟩, .inl rfl⟩
      · simp only [List.size_toArray, List.length_append, List.length_take, List.length_drop, Array.length_toList]
        omega
      · rw [hsize, List.append_assoc]
        have hcl : (cur.toList.take (off + ls.length * 4)).length = off + ls.length * 4 := by
          simp only [List.length_take, Array.length_toList]
          rw [hl, hsize] at hfit
          omega
        rw [List.drop_append_of_le_length (by omega), List.drop_take, Nat.add_sub_cancel_left, h4, Ol.cells_append, ← List.append_assoc, show (ls ++ xs).length * 4 = (Ol.cells ls ++ Ol.cells xs).length from by simp only [List.length_append, hl, hll]; omega]
        exact List.take_left
    · have hi2 := (show Row w B e (.slice (some ⟨g, off, none⟩) ls.length cap) ls from .inr ⟨g, off, cap, cur, rfl, hB, hg, h1, h2, h3, h4⟩).items
      have holds : ∀ j u, (Ol.cells ls)[j]? = some u → w.cell? ((⟨g, off, none⟩ : Addr).add j) = some u := by
        rcases hi2 with ⟨ao, c, he, h0⟩ | ⟨b, o, c, he, _, _, _, _, hx'⟩
        · subst h0
          intro j u hj
          simp [Ol.cells] at hj
        · simp only [Value.slice.injEq, Option.some.injEq, Addr.mk.injEq, and_true, true_and] at he
          obtain ⟨⟨rfl, rfl⟩, rfl⟩ := he
          exact cells_of_fours ls hx'
      have hr := run_append_grow_src (P := P) w t t ty e i z ht hi hz (some ⟨g, off, none⟩) ls.length cap (Ol.cells ls) (run_firstCells_some w.drew _ _ _ _ _ (Ol.cells ls) (by rw [hsize]; exact hll) (by simpa using holds)) x xs.length (Ol.cells xs) hs (by omega) (by omega) (growslice_fits_wide (by omega) hbytes)
      have hgr := grown cap (by omega) (Value.ownBlock (.slice (some ⟨g, off, none⟩) ls.length cap))
      exact ⟨_, _, hr, hgr.1, hgr.2, .inr (fun j hj => by simp [Value.ownBlock] at hj; omega)⟩

theorem wpList_rowW {ops : Array Oper} {rest : List Oper} {o : Oper} {a : Act} {Q : Exit → Act → World → Prop} (hgd : o.guard = none) (s x : Operand) (t : TypeId)
    (ho : o.op = .call { callee := .builtin .append, args := #[s, x], argTypes := #[t, t] })
    (B : Nat) (e : TypeId) (i : TypeInfo) (z : Value) (bytes : Nat) (ht : P.underlying t = some (.slice e)) (hi : P.info? e = some i) (hz : i.zero = some z) (hsize : i.size = 4) (hby : i.bytes = bytes) (hzs : z.cells.size = 4)
    (v : Value) (ls : List Ol.It) (hv : a.eval s = v) (hrow : Row w B e v ls) (xv : Value) (xs : List Ol.It) (hxv : a.eval x = xv) (hx : ItemsAt w xv xs) (h63 : ls.length + xs.length ≤ maxLen) (hbytes : (ls.length + xs.length + (ls.length + xs.length) / 4 + 192) * bytes ≤ 281474976710656) (hbase : B ≤ w.heap.size)
    (h : ∀ v' w', Row w' B e v' (ls ++ xs) → w.grownBy w' v.ownBlock → (v'.ownBlock = v.ownBlock ∨ ∀ j, v'.ownBlock = some j → w.heap.size ≤ j) → wpList P ops Q rest (a.put o.dst v') w') : wpList P ops Q (o :: rest) a w :=
  wpList_plain hgd fun _ hK => by
    obtain ⟨v', w', hr, h2, h3, h4⟩ := Row.append_runW (P := P) w B t o.type e i z bytes ht hi hz hsize hby hzs v ls hrow xv xs hx h63 hbytes hbase
    unfold Oper.wp execOp
    simp only [ho, resolve, invoke, builtin, Sem.run_bind, Sem.run_pure, Result.andThen_ok, List.map_toArray, List.map_cons, List.map_nil, hv, hxv, hr]
    exact hK _ _ (h v' w' h2 h3 h4)
end
end Go.Proofs.Ytbjcleeiobaegaa
