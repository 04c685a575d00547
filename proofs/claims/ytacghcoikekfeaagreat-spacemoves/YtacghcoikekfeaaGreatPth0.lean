/-
  A list of texts in a box, and one more of them (no program of its own); how long ways are.
-/
import Derived.Test.YtacghcoikekfeaaGreatRPa
import Derived.Test.YtacghcoikekfeaaGreatSSo
import Derived.Test.YtacghcoikekfeaaGreatRea
namespace Go.Proofs.YtacghcoikekfeaaGreat
open Go.ChangeShapes Go.WideShapes Go.ChangeAt Go.RowKit Go.Deep Go.Shelf It
set_option maxRecDepth 100000
section
variable {α : Type} {P : Program} (w : World)
theorem wpListIn_row {F : Fence} {n : Nat} {ops : Array Oper} {rest : List Oper} {o : Oper} {a : Act} {Q : Exit → Act → World → Prop} (hgd : o.guard = none) (s x : Operand) (t : TypeId)
    (ho : o.op = .call { callee := .builtin .append, args := #[s, x], argTypes := #[t, t] }) (E : Enc α) (S : Nat → Prop)
    (B : Nat) (e : TypeId) (i : TypeInfo) (z : Value) (bytes : Nat) (ht : P.underlying t = some (.slice e)) (hi : P.info? e = some i) (hz : i.zero = some z) (hsize : i.size = E.sz) (hby : i.bytes = bytes) (hzs : z.cells.size = E.sz)
    (v : Value) (ls : List α) (hv : a.eval s = v) (hrow : Row E w B e v ls) (xv : Value) (xs : List α) (hxv : a.eval x = xv) (hx : At E S w xv xs) (h63 : ls.length + xs.length ≤ maxLen) (hbytes : (ls.length + xs.length + (ls.length + xs.length) / 4 + 192) * bytes ≤ 281474976710656) (hbase : B ≤ w.heap.size)
    (h : ∀ v' w', Row E w' B e v' (ls ++ xs) → w.grownBy w' v.ownBlock → (v'.ownBlock = v.ownBlock ∨ ∀ j, v'.ownBlock = some j → w.heap.size ≤ j) → wpListIn F n P ops Q rest (a.put o.dst v') w') : wpListIn F n P ops Q (o :: rest) a w := by
  refine wpListIn_plain hgd fun K hK' => ?_
  obtain ⟨v', w', hr, h2, h3, h4⟩ := Row.append_run (P := P) w E S B t o.type e i z bytes ht hi hz hsize hby hzs v ls hrow xv xs hx h63 hbytes hbase
  unfold Oper.wpIn
  refine ⟨?_, ?_⟩
  · simp [Oper.about, ho, resolve, Target.leads, Sem.run_pure]
  · rw [Oper.semAt_plain F _ _ (by rw [ho]; intro c hc'; cases hc')]
    simp [execOp, ho, resolve, invoke, builtin, hv, hxv, hr, Result.andThen]
    exact hK' _ _ (h v' w' h2 h3 h4)
end
theorem row_other {w : World} {B : Nat} {u v : Value} {l : List ByteArray} (h : Row ETx w B 9 u l) {Bx o : Nat} (hn : ∀ k, u.ownBlock = some k → k ≠ Bx) : Row ETx (w.setCell ⟨Bx, o, none⟩ v) B 9 u l := by
  rcases h with h | ⟨g, cap, cur, hu, hB, hh, h1⟩
  · exact .inl h
  · exact .inr ⟨g, cap, cur, hu, hB, (Below.heap_setCell _ _ _ _ (by have := hn g (by rw [hu]; rfl); simpa using this)).trans hh, h1⟩
theorem row_block {w : World} {B : Nat} {u : Value} {l : List ByteArray} (h : Row ETx w B 9 u l) {k : Nat} (hk : u.ownBlock = some k) : ∃ cur, w.heap[k]? = some (.cells cur 9 (0, 0)) := by
  rcases h with ⟨rfl, _⟩ | ⟨g, cap, cur, rfl, hB, hh, h1⟩
  · cases hk
  · have : g = k := by simpa [Value.ownBlock] using hk
    subst this
    exact ⟨cur, hh⟩
theorem row_box {w : World} {B Bx : Nat} {u x : Value} {l : List ByteArray} (h : Row ETx w B 9 u l) (hb : Boxed w Bx 28 x) : ∀ k, u.ownBlock = some k → k ≠ Bx := by
  rintro k hk rfl
  obtain ⟨cur, hc⟩ := row_block h hk
  have hb' : w.heap[k]? = some (.cells #[x] 28 (0, 0)) := hb
  rw [hc] at hb'
  simp at hb'
/-- One more text, and the box has the new list. -/
theorem kp_app {V w' : World} {Bx B : Nat} {u u' : Value} {l l' : List ByteArray} (h : Boxed V Bx 28 u) (hr : Row ETx V B 9 u l) (hg : V.grownBy w' u.ownBlock) (hr' : Row ETx w' B 9 u' l') (hloc : u'.ownBlock = u.ownBlock ∨ ∀ j, u'.ownBlock = some j → V.heap.size ≤ j) :
    Kp Bx V (w'.setCell ⟨Bx, 0, none⟩ u') ∧ Boxed (w'.setCell ⟨Bx, 0, none⟩ u') Bx 28 u' ∧ Row ETx (w'.setCell ⟨Bx, 0, none⟩ u') B 9 u' l' := by
  have hne := row_box hr h
  have hbw : Boxed w' Bx 28 u := (hg.block Bx h.lt (fun e => hne Bx e.symm rfl)).trans h
  have hb2 : Boxed (w'.setCell ⟨Bx, 0, none⟩ u') Bx 28 u' := hbw.set u'
  have hgs := grownBy_setCell' w' Bx u'
  refine ⟨⟨hgs.os.trans hg.os, hgs.tape.trans hg.tape, hgs.output.trans hg.output, Nat.le_trans hg.size hgs.size, fun _ => ⟨u', hb2.cell, fun k e => Nat.lt_of_lt_of_le (hr'.lt k e).2 hgs.size⟩, fun k hk hn => ?_, fun k hk hm => ?_, fun k o hk ho => ?_⟩, hb2, row_other hr' (row_box hr' hbw)⟩
  · have h1 : w'.heap[k]? = V.heap[k]? := hg.block k hk (fun e => hn (.inr ⟨u, h.cell, e.symm⟩))
    exact (hgs.block k (Nat.lt_of_lt_of_le hk hg.size) (fun e => hn (.inl (by cases e; rfl)))).trans h1
  · rcases hm with rfl | ⟨x, hx, he⟩
    · exact .inl rfl
    · rw [hb2.cell] at hx
      cases hx
      rcases hloc with hl | hl
      · exact .inr ⟨u, h.cell, by rw [← hl]; exact he⟩
      · have := hl k he
        omega
  · have h1 : w'.heap[k]? = V.heap[k]? := hg.block k (Array.getElem?_eq_some_iff.1 hk).1 (fun e => by
      obtain ⟨cur, hc⟩ := row_block hr e.symm
      rw [hk] at hc
      cases hc
      simp [Obj.isCells] at ho)
    exact (KeepsOthers.setCell w' _ _).same k o (h1.trans hk) ho
theorem Sp.walk_bd {L : List Ino} : ∀ (f no : Nat) (path : ByteArray) (z : Nat × ByteArray), Sp.deep L f no → z ∈ Sp.walk L f no path → z.1 < L.length ∧ z.2.size + 33 ≤ path.size + 33 * f
  | 0, _, _, _, h, _ => h.elim
  | f + 1, no, path, z, h, hz => by
    rw [Sp.walk_succ] at hz
    rcases List.mem_cons.1 hz with rfl | hz
    · exact ⟨h.1, by simp only; omega⟩
    · obtain ⟨e, he, hze⟩ := List.mem_flatMap.1 hz
      obtain ⟨hd, hzw⟩ := Sp.mem_step hze
      obtain ⟨⟨-, -, hs⟩, h2⟩ := h.2 e he
      obtain ⟨h3, h4⟩ := Sp.walk_bd f _ _ z (h2 hd) hzw
      rw [Sp.way_size] at h4
      exact ⟨h3, by omega⟩
end Go.Proofs.YtacghcoikekfeaaGreat
