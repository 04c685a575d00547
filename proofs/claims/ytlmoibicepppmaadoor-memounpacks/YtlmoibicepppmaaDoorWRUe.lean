/-
  The document's Unpack of memos.
-/
import Derived.Test.YtlmoibicepppmaaDoorWUnpk
import Derived.Test.YtlmoibicepppmaaDoorWRPack
import Derived.Test.YtlmoibicepppmaaDoorWRBackP
import Derived.Test.YtlmoibicepppmaaDoorRefUnpack
import Derived.Test.YtlmoibicepppmaaDoorWPc
namespace Go.Proofs.YtlmoibicepppmaaDoor
open Go.ChangeShapes Go.WideShapes Go.ChangeAt Go.RowKit Go.Deep Me
set_option maxRecDepth 100000
theorem rnum_any (s : ByteArray) (a z : Nat) (w : World) (ha : a ≤ 64) (hz : z ≤ 64) : Calls Tryd.prog 37 #[.string s, .int .i64 a, .int .i64 z] w fun e w' => e = .returned (.int .i64 (nm s a z)) ∧ w' = w := by
  by_cases h : s.size < a + z
  · have H : Hid (nm s a z = 0) := by show _ = _; rw [nm_eq, if_pos h]
    rw [H.out]
    have h' : (s.size : Int) < (a : Int) + (z : Int) := by omega
    clear h
    go_enter Tryd.func37, Tryd.ntmps37
    go_wp2
    go_ret
    exact ⟨rfl, rfl⟩
  · have H : Hid (nm s a z = Pl.numVal (s.extract a (a + z))) := by show _ = _; rw [nm_eq, if_neg h]
    have HS : Hid ((s.extract a (a + z)).size ≤ maxLen) := by show _ ≤ _; rw [ByteArray.size_extract]; unfold maxLen; omega
    rw [H.out]
    have h' : ¬ (s.size : Int) < (a : Int) + (z : Int) := by omega
    go_enter Tryd.func37, Tryd.ntmps37
    go_wp2_with fail
    refine (refNumber_any _ _ HS.out).mono ?_
    rintro e w1 ⟨rfl, rfl⟩
    go_wp2
    go_ret
    exact ⟨rfl, rfl⟩
theorem FieldsAt.open {B : Nat} {w : World} {v : Value} {l : List (Int × ByteArray)} (h : FieldsAt B w v l) : ∃ ao cap, v = .slice ao l.length cap ∧ l.length ≤ maxLen ∧ ∀ j, j < l.length → ∃ b off, ao = some ⟨b, off, none⟩ ∧ b < B ∧ w.cell? ⟨b, off + j * 2, none⟩ = some (.int .i64 (l.getD j (0, .empty)).1) ∧ w.cell? ⟨b, off + j * 2 + 1, none⟩ = some (.string (l.getD j (0, .empty)).2) := by
  rcases h with ⟨ao, cap, rfl, rfl⟩ | ⟨b, off, cap, rfl, hlt, _, hc, hm, hx⟩
  · exact ⟨ao, cap, rfl, by simp, fun j hj => by simp at hj⟩
  · exact ⟨_, cap, rfl, by omega, fun j hj => ⟨b, off, rfl, hlt, hx j hj⟩⟩
theorem str_ne {a b : ByteArray} (h : a ≠ b) : (a.toList == b.toList) = false := by
  rw [beq_eq_false_iff_ne]
  intro e
  rw [ByteArray.toList_eq, ByteArray.toList_eq] at e
  exact h (ByteArray.ext (Array.ext' e))
theorem bf_of {w : World} {A : Nat} {t : Int} {s : ByteArray} (h : w.heap[A]? = some (BF t s)) : w.cell? ⟨A, 0, none⟩ = some (.int .i64 t) ∧ w.cell? ⟨A, 1, none⟩ = some (.string s) := by
  constructor <;> simp [World.cell?, h]
structure Ru (w0 : World) (M : Nat) (F : Value) (l : List (Int × ByteArray)) (k : Nat) (m : Mm) (u z : Value) (w : World) : Prop where
  bx : w.heap[M]? = some (BMr m u z)
  ru : Row EI w (M + 1) 3 u m.lives
  rz : Row EM w (M + 1) 50 z m.items
  rs : w.heap[w0.heap.size]? = some (BMr Me.zero NS NS)
  fl : FieldsAt M w F l
  bel : Below w0.heap.size w0 w
  hR : w0.heap.size < M
  eq : rFold Me.zero l = rFold m (l.drop k)
  lv : m.lives.length ≤ k
  li : m.items.length ≤ k
theorem FieldsAt.grown {w w' : World} {M : Nat} {F : Value} {l : List (Int × ByteArray)} {X : Option Nat} (h : FieldsAt M w F l) (hg : w.grownBy w' X) (hM : M ≤ w.heap.size) (hX : ∀ k, k < M → some k ≠ X) : FieldsAt M w' F l :=
  h.below (C := M) ⟨hg.os, hg.tape, hg.output, hg.size, fun k hk => hg.block k (by omega) (hX k hk)⟩ (Nat.le_refl _)
theorem Ru.up {w0 w w' : World} {M k : Nat} {F u z : Value} {l : List (Int × ByteArray)} {m : Mm} (h : Ru w0 M F l k m u z w) (hb : Below w.heap.size w w') : Ru w0 M F l k m u z w' :=
  ⟨blk h.bx hb, h.ru.up hb, h.rz.up hb, blk h.rs hb, h.fl.below hb (Nat.le_of_lt (block_lt h.bx)), h.bel.trans (hb.mono h.bel.size), h.hR, h.eq, h.lv, h.li⟩
theorem Ru.eqv {w0 w w' : World} {M k : Nat} {F u z : Value} {l : List (Int × ByteArray)} {m : Mm} (h : Ru w0 M F l k m u z w) (h1 : w'.heap = w.heap) (h2 : w'.os = w.os) (h3 : w'.tape = w.tape) (h4 : w'.output = w.output) : Ru w0 M F l k m u z w' :=
  h.up ⟨h2, h3, h4, by rw [h1]; exact Nat.le_refl _, fun k _ => by rw [h1]⟩
/-- One cell of the memo's box is written. -/
theorem Ru.put {w0 w : World} {M k : Nat} {F u z : Value} {l : List (Int × ByteArray)} {m m' : Mm} (h : Ru w0 M F l k m u z w) (j : Nat) (p : Value)
    (hk : (#[.int .i64 m.k, .int .i64 m.v, .int .i64 m.n, .int .i64 m.o, .int .i64 m.c, .int .i64 m.b, .int .i64 m.l, .int .i64 m.cl, u, z, .int .i64 m.mo, .int .i64 m.ms, .int .i64 m.mm, .int .i64 m.nu, .string m.d] : Array Value).setIfInBounds j p = #[.int .i64 m'.k, .int .i64 m'.v, .int .i64 m'.n, .int .i64 m'.o, .int .i64 m'.c, .int .i64 m'.b, .int .i64 m'.l, .int .i64 m'.cl, u, z, .int .i64 m'.mo, .int .i64 m'.ms, .int .i64 m'.mm, .int .i64 m'.nu, .string m'.d])
    (hl : m'.lives = m.lives) (hi : m'.items = m.items) (k' : Nat) (hkk : k ≤ k') (he : rFold m (l.drop k) = rFold m' (l.drop k')) : Ru w0 M F l k' m' u z (w.setCell ⟨M, j, none⟩ p) := by
  have h1 := h.hR
  have hg := grown_set1 w M j p
  have hM := block_lt h.bx
  refine ⟨by rw [set_at h.bx, hk], ?_, ?_, (hg.block _ (block_lt h.rs) (by simp; omega)).trans h.rs, h.fl.grown hg (by omega) (fun q hq => by simp; omega), below_grown h.bel hg (by omega) (by omega), h1, by rw [h.eq, he], by rw [hl]; exact Nat.le_trans h.lv hkk, by rw [hi]; exact Nat.le_trans h.li hkk⟩
  · rw [hl]; exact h.ru.stay hg (h.ru.ne_low (by omega))
  · rw [hi]; exact h.rz.stay hg (h.rz.ne_low (by omega))
theorem Ru.man {w0 w : World} {M k : Nat} {F u z : Value} {l : List (Int × ByteArray)} {m : Mm} (h : Ru w0 M F l k m u z w) (a b c : Int)
    (he : rFold m (l.drop k) = rFold { m with mo := a, ms := b, mm := c } (l.drop (k + 1))) : Ru w0 M F l (k + 1) { m with mo := a, ms := b, mm := c } u z (((w.setCell ⟨M, 10, none⟩ (.int .i64 a)).setCell ⟨M, 11, none⟩ (.int .i64 b)).setCell ⟨M, 12, none⟩ (.int .i64 c)) := by
  have h1 := h.hR
  have hg := grown_trans (grown_trans (grown_set1 w M 10 (.int .i64 a)) (grown_set1 _ M 11 (.int .i64 b))) (grown_set1 _ M 12 (.int .i64 c))
  have hM := block_lt h.bx
  exact ⟨by rw [set_at (set_at (set_at h.bx _ _) _ _)]; rfl, h.ru.stay hg (h.ru.ne_low (by omega)), h.rz.stay hg (h.rz.ne_low (by omega)), (hg.block _ (block_lt h.rs) (by simp; omega)).trans h.rs, h.fl.grown hg (by omega) (fun q hq => by simp; omega), below_grown h.bel hg (by omega) (by omega), h1, by rw [h.eq, he], Nat.le_succ_of_le h.lv, Nat.le_succ_of_le h.li⟩
/-- A life is appended; the list is written into the box. -/
theorem Ru.life {w0 w w1 : World} {M k : Nat} {F u z u' : Value} {l : List (Int × ByteArray)} {m : Mm} {y : Int} (h : Ru w0 M F l k m u z w) (hr : Row EI w1 (M + 1) 3 u' (m.lives ++ [y])) (hg : w.grownBy w1 u.ownBlock)
    (he : rFold m (l.drop k) = rFold { m with lives := m.lives ++ [y] } (l.drop (k + 1))) : Ru w0 M F l (k + 1) { m with lives := m.lives ++ [y] } u' z (w1.setCell ⟨M, 8, none⟩ u') := by
  have h1 := h.hR
  have hM := block_lt h.bx
  have hg2 := grown_set1 w1 M 8 u'
  have hlow : ∀ q, q < M + 1 → some q ≠ u.ownBlock := fun q hq e => h.ru.ne_low hq e.symm
  have hbx : w1.heap[M]? = some (BMr m u z) := (hg.block M hM (hlow M (by omega))).trans h.bx
  have hrs : w1.heap[w0.heap.size]? = some (BMr Me.zero NS NS) := (hg.block _ (block_lt h.rs) (hlow _ (by omega))).trans h.rs
  have hz1 : Row EM w1 (M + 1) 50 z m.items := by
    rcases h.rz with hh | ⟨g, cap, cur, rfl, hB, hh, hrr⟩
    · exact .inl hh
    · refine .inr ⟨g, cap, cur, rfl, hB, (hg.block g (block_lt hh) ?_).trans hh, hrr⟩
      intro e
      exact h.ru.ne_kind hh (by decide) e.symm
  refine ⟨by rw [set_at hbx]; rfl, hr.stay hg2 (hr.ne_low (by omega)), hz1.stay hg2 (hz1.ne_low (by omega)), (hg2.block _ (block_lt hrs) (by simp; omega)).trans hrs, (h.fl.grown hg (by omega) (fun q hq => hlow q (by omega))).grown hg2 (by have := hg.size; omega) (fun q hq => by simp; omega), ?_, h1, by rw [h.eq, he], by simp only [List.length_append, List.length_singleton]; have := h.lv; omega, by have := h.li; simp only; omega⟩
  refine below_grown ?_ hg2 (by omega) (by have := hg.size; have := h.bel.size; omega)
  exact ⟨hg.os.trans h.bel.os, hg.tape.trans h.bel.tape, hg.output.trans h.bel.output, Nat.le_trans h.bel.size hg.size, fun q hq => (hg.block q (by have := h.bel.size; omega) (hlow q (by omega))).trans (h.bel.block q hq)⟩
/-- An item is appended; the list is written into the box. -/
theorem Ru.item {w0 w w1 : World} {M k : Nat} {F u z z' : Value} {l : List (Int × ByteArray)} {m : Mm} {y : It} (h : Ru w0 M F l k m u z w) (hr : Row EM w1 (M + 1) 50 z' (m.items ++ [y])) (hg : w.grownBy w1 z.ownBlock)
    (he : rFold m (l.drop k) = rFold { m with items := m.items ++ [y] } (l.drop (k + 1))) : Ru w0 M F l (k + 1) { m with items := m.items ++ [y] } u z' (w1.setCell ⟨M, 9, none⟩ z') := by
  have h1 := h.hR
  have hM := block_lt h.bx
  have hg2 := grown_set1 w1 M 9 z'
  have hlow : ∀ q, q < M + 1 → some q ≠ z.ownBlock := fun q hq e => h.rz.ne_low hq e.symm
  have hbx : w1.heap[M]? = some (BMr m u z) := (hg.block M hM (hlow M (by omega))).trans h.bx
  have hrs : w1.heap[w0.heap.size]? = some (BMr Me.zero NS NS) := (hg.block _ (block_lt h.rs) (hlow _ (by omega))).trans h.rs
  have hz1 : Row EI w1 (M + 1) 3 u m.lives := by
    rcases h.ru with hh | ⟨g, cap, cur, rfl, hB, hh, hrr⟩
    · exact .inl hh
    · refine .inr ⟨g, cap, cur, rfl, hB, (hg.block g (block_lt hh) ?_).trans hh, hrr⟩
      intro e
      exact h.rz.ne_kind hh (by decide) e.symm
  refine ⟨by rw [set_at hbx]; rfl, hz1.stay hg2 (hz1.ne_low (by omega)), hr.stay hg2 (hr.ne_low (by omega)), (hg2.block _ (block_lt hrs) (by simp; omega)).trans hrs, (h.fl.grown hg (by omega) (fun q hq => hlow q (by omega))).grown hg2 (by have := hg.size; omega) (fun q hq => by simp; omega), ?_, h1, by rw [h.eq, he], by have := h.lv; simp only; omega, by simp only [List.length_append, List.length_singleton]; have := h.li; omega⟩
  refine below_grown ?_ hg2 (by omega) (by have := hg.size; have := h.bel.size; omega)
  exact ⟨hg.os.trans h.bel.os, hg.tape.trans h.bel.tape, hg.output.trans h.bel.output, Nat.le_trans h.bel.size hg.size, fun q hq => (hg.block q (by have := h.bel.size; omega) (hlow q (by omega))).trans (h.bel.block q hq)⟩
theorem at_newI (w : World) (o : Obj) (y : Int) : AtW EI (((w.alloc o).alloc (.cells #[.int .i64 y] 3)).drew) (.slice (some ⟨w.heap.size + 1, 0, none⟩) 1 1) [y] := by
  have h := heap_alloc_new (w.alloc o) (.cells #[.int .i64 y] 3)
  rw [show (w.alloc o).heap.size = w.heap.size + 1 from by simp] at h
  exact at_oneI (w := ((w.alloc o).alloc (.cells #[.int .i64 y] 3)).drew) h
theorem at_newM (w : World) (o : Obj) (y : It) : AtW EM (((w.alloc o).alloc (BI y)).drew) (.slice (some ⟨w.heap.size + 1, 0, none⟩) 1 1) [y] := by
  have h := heap_alloc_new (w.alloc o) (BI y)
  rw [show (w.alloc o).heap.size = w.heap.size + 1 from by simp] at h
  exact at_oneIt (w := ((w.alloc o).alloc (BI y)).drew) h
theorem Ru.base {w0 w : World} {M k : Nat} {F u z : Value} {l : List (Int × ByteArray)} {m : Mm} (h : Ru w0 M F l k m u z w) : M + 1 ≤ w.heap.size := block_lt h.bx
theorem Ru.lifeM {w0 w w1 : World} {M k : Nat} {F u z : Value} {l : List (Int × ByteArray)} {m : Mm} (h : Ru w0 M F l k m u z w) (hg : w.grownBy w1 u.ownBlock) : w1.heap[M]? = some (BMr m u z) :=
  (hg.block M (block_lt h.bx) (fun e => h.ru.ne_low (show M < M + 1 by omega) e.symm)).trans h.bx
theorem Ru.itemM {w0 w w1 : World} {M k : Nat} {F u z : Value} {l : List (Int × ByteArray)} {m : Mm} (h : Ru w0 M F l k m u z w) (hg : w.grownBy w1 z.ownBlock) : w1.heap[M]? = some (BMr m u z) :=
  (hg.block M (block_lt h.bx) (fun e => h.rz.ne_low (show M < M + 1 by omega) e.symm)).trans h.bx
theorem Ru.start {w w2 : World} {F : Value} {l : List (Int × ByteArray)} (hb : Below (w.alloc (BMr Me.zero NS NS)).heap.size (w.alloc (BMr Me.zero NS NS)) w2) (hf : FieldsAt w2.heap.size w2 F l) : Ru w w2.heap.size F l 0 Me.zero NS NS (w2.alloc (BMr Me.zero NS NS)) := by
  have hs := hb.size
  simp at hs
  exact ⟨heap_alloc_new _ _, Row.nil _ _ _ _, Row.nil _ _ _ _, blk (blk (heap_alloc_new _ _) hb) (below_alloc _ _), hf.below (below_alloc _ _) (Nat.le_refl _), bup (bup (below_alloc _ _) hb) (below_alloc _ _), by omega, rfl, Nat.le_refl _, Nat.le_refl _⟩
/-- The result's box is written: the end. -/
theorem Ru.fin {w0 w w' : World} {M k : Nat} {F u z : Value} {l : List (Int × ByteArray)} {m : Mm} (h : Ru w0 M F l k m u z w) (hg : w.grownBy w' (some w0.heap.size)) : MAt w' m u z ∧ Below w0.heap.size w0 w' := by
  have h1 := h.hR
  exact ⟨⟨atw (h.ru.stay hg (h.ru.ne_low (by omega))).at, atw (h.rz.stay hg (h.rz.ne_low (by omega))).at⟩, below_grown h.bel hg (Nat.le_refl _) h.bel.size⟩
theorem drop_at {l : List (Int × ByteArray)} {k : Nat} (h : k < l.length) {t : Int} {s : ByteArray} (e : l.getD k (0, .empty) = (t, s)) : l.drop k = (t, s) :: l.drop (k + 1) := by
  rw [List.drop_eq_getElem_cons h]
  congr 1
  rw [← e]
  simp [List.getD, h]
theorem rstep {l : List (Int × ByteArray)} {k : Nat} {t : Int} {s : ByteArray} {m m' : Mm} (h : l.drop k = (t, s) :: l.drop (k + 1)) (e : rStep m t s = some m') : rFold m (l.drop k) = rFold m' (l.drop (k + 1)) := by
  rw [h, rFold_cons, e, Option.bind_some]
/-- The answer's form: none, or the memo. -/
def Ra (w : World) (s : ByteArray) (e : Ending) (w' : World) : Prop := (∃ u z, e = .returned (.tuple #[VM (unpM s) u z, .int .i64 (unpE s)]) ∧ MAt w' (unpM s) u z) ∧ Below w.heap.size w w'
theorem ra_no {w w' : World} {s : ByteArray} {E : Int} (h : unpM s = Me.zero ∧ unpE s = E) (hb : Below w.heap.size w w') : Ra w s (.returned (.tuple #[VM Me.zero NS NS, .int .i64 E])) w' := ⟨⟨NS, NS, by rw [h.1, h.2], by rw [h.1]; exact mat_zero _⟩, hb⟩
theorem ra_yes {w w' : World} {s : ByteArray} {m : Mm} {u z : Value} (h : unpM s = m ∧ unpE s = 0) (hm : MAt w' m u z) (hb : Below w.heap.size w w') : Ra w s (.returned (.tuple #[VM m u z, .int .i64 0])) w' := ⟨⟨u, z, by rw [h.1, h.2], by rw [h.1]; exact hm⟩, hb⟩
theorem Ru.skip {w0 w : World} {M k : Nat} {F u z : Value} {l : List (Int × ByteArray)} {m : Mm} (h : Ru w0 M F l k m u z w) (he : rFold m (l.drop k) = rFold m (l.drop (k + 1))) : Ru w0 M F l (k + 1) m u z w :=
  ⟨h.bx, h.ru, h.rz, h.rs, h.fl, h.bel, h.hR, by rw [h.eq, he], Nat.le_succ_of_le h.lv, Nat.le_succ_of_le h.li⟩
set_option linter.unusedSimpArgs false in
set_option maxRecDepth 100000 in
set_option maxRecDepth 100000 in
set_option maxHeartbeats 80000000 in
theorem rUnp_large (ss : ByteArray) (w : World) (hs : 60000 < ss.size) : Calls Tryd.prog 14 #[.string ss] w (Ra w ss) := by
  have HE : Hid (unpM ss = Me.zero ∧ unpE ss = 2) := ⟨by unfold unpM; rw [if_pos hs], by unfold unpE; rw [if_pos hs]⟩
  have hs' : (60000 : Int) < (ss.size : Int) := by omega
  have hbx := heap_alloc_new w (BMr Me.zero NS NS)
  have g0 := fr_at hbx 0
  have g1 := fr_at hbx 1
  have g2 := fr_at hbx 2
  have g3 := fr_at hbx 3
  have g4 := fr_at hbx 4
  have g5 := fr_at hbx 5
  have g6 := fr_at hbx 6
  have g7 := fr_at hbx 7
  have g8 := fr_at hbx 8
  have g9 := fr_at hbx 9
  have g10 := fr_at hbx 10
  have g11 := fr_at hbx 11
  have g12 := fr_at hbx 12
  have g13 := fr_at hbx 13
  have g14 := fr_at hbx 14
  obtain ⟨c0, c1, c2, c3, c4, c5, c6, c7, c8, c9, c10, c11, c12, c13, c14⟩ := mr_of hbx
  clear hs hbx
  go_enter Tryd.func14, Tryd.ntmps14
  go_wp2
  (try simp only [Exit.inBlock, Exit.then])
  refine bodyPost_ret (v := .tuple #[VM Me.zero NS NS, .int .i64 2]) ?_ rfl (ra_no HE.out (below_alloc _ _))
  rw [results_cell_tmp rfl]
  go_simp
  exact ⟨rfl, rfl, rfl, rfl, rfl, rfl, rfl, rfl, rfl, rfl, rfl, rfl, rfl⟩
set_option linter.unusedSimpArgs false in
set_option maxRecDepth 100000 in
set_option maxRecDepth 100000 in
set_option maxHeartbeats 80000000 in
theorem rUnp_bad (ss : ByteArray) (w : World) (hs : ss.size ≤ 60000) (hbad : ¬ (Po.Pl.ungErr ss = 0 ∧ Pl.unpErr (Po.Pl.ungOut ss).data.toList = 0)) : Calls Tryd.prog 14 #[.string ss] w (Ra w ss) := by
  have hs' : ¬ (60000 : Int) < (ss.size : Int) := by omega
  have HS : Hid (ss.size ≤ 60000) := by show _ ≤ _; omega
  have HUS : Hid ((Po.Pl.ungOut ss).size ≤ 60000) := Nat.le_trans (ung_le ss) HS.out
  obtain ⟨tx, htx⟩ : ∃ tx, Po.Pl.ungOut ss = tx := ⟨_, rfl⟩
  have HTX : Hid (Po.Pl.ungOut ss = tx) := htx
  obtain ⟨l, hl⟩ : ∃ l, Pl.unpOut tx.data.toList = l := ⟨_, rfl⟩
  have HL0 : Hid (Pl.unpOut tx.data.toList = l) := hl
  have HL : Hid (Pl.unpOut (Po.Pl.ungOut ss).data.toList = l) := by show _ = _; rw [htx, hl]
  have hlen : l.length ≤ 60000 := by
    have h1 := parse_len tx.data.toList
    have h2 : tx.data.toList.length = tx.size := by simp
    have h3 := HUS.out
    rw [htx] at h3
    rw [hl] at h1
    omega
  obtain ⟨e1, he1⟩ : ∃ e, Po.Pl.ungErr ss = e := ⟨_, rfl⟩
  have HE1 : Hid (Po.Pl.ungErr ss = e1) := he1
  obtain ⟨e2, he2⟩ : ∃ e, Pl.unpErr tx.data.toList = e := ⟨_, rfl⟩
  have HE2 : Hid (Pl.unpErr tx.data.toList = e2) := he2
  have HPW : Hid (¬ (e1 = 0 ∧ e2 = 0) → unpM ss = Me.zero ∧ unpE ss = 4) := fun h => ref_none HS.out (by unfold pWhole; rw [htx, he1, he2, if_neg h])
  obtain ⟨n, hn⟩ : ∃ n, l.length = n := ⟨_, rfl⟩
  have HN : Hid (l.length = n) := hn
  rw [hn] at hlen
  have h0 : ¬ (e1 = 0 ∧ e2 = 0) := by rw [← he1, ← he2, ← htx]; exact hbad
  clear hs hl htx he1 he2 hn hbad
  go_enter Tryd.func14, Tryd.ntmps14
  go_wp2_with fail
  refine (Po.refUnguard_any ss _ (by have := HS.out; omega)).mono ?_
  rintro e w1 ⟨rfl, hb1⟩
  rw [HTX.out, HE1.out]
  have HB1 : Hid (Below (w.alloc (BMr Me.zero NS NS)).heap.size (w.alloc (BMr Me.zero NS NS)) w1) := hb1
  clear hb1
  go_wp2_with fail
  refine (refUnpack_any tx _ (by have := HUS.out; rw [HTX.out] at this; omega)).mono ?_
  rintro e w2 ⟨r0, rfl, ho2, hb2⟩
  rw [HE2.out]
  rw [HL0.out] at ho2
  have hf2 := FieldsAt.of_own ho2
  obtain ⟨pa, ca, rfl, -, -⟩ := hf2.open
  rw [HN.out] at hf2 ⊢
  have HF2 : Hid (FieldsAt w2.heap.size w2 (.slice pa n ca) l) := hf2
  have HB2 : Hid (Below (w.alloc (BMr Me.zero NS NS)).heap.size (w.alloc (BMr Me.zero NS NS)) w2) := bup HB1.out hb2
  clear hb2 ho2 hf2
  have HE : Hid (unpM ss = Me.zero ∧ unpE ss = 4) := HPW.out h0
  have hrs := blk (heap_alloc_new w (BMr Me.zero NS NS)) HB2.out
  have g0 := fr_at hrs 0
  have g1 := fr_at hrs 1
  have g2 := fr_at hrs 2
  have g3 := fr_at hrs 3
  have g4 := fr_at hrs 4
  have g5 := fr_at hrs 5
  have g6 := fr_at hrs 6
  have g7 := fr_at hrs 7
  have g8 := fr_at hrs 8
  have g9 := fr_at hrs 9
  have g10 := fr_at hrs 10
  have g11 := fr_at hrs 11
  have g12 := fr_at hrs 12
  have g13 := fr_at hrs 13
  have g14 := fr_at hrs 14
  obtain ⟨c0, c1, c2, c3, c4, c5, c6, c7, c8, c9, c10, c11, c12, c13, c14⟩ := mr_of hrs
  have HG : Hid (∀ w3, w2.grownBy w3 (some w.heap.size) → Below w.heap.size w w3) := fun w3 hg => below_grown (bup (below_alloc _ _) HB2.out) hg (Nat.le_refl _) (bup (below_alloc w (BMr Me.zero NS NS)) HB2.out).size
  clear hrs
  by_cases h1 : e1 = 0
  · have h1' : (e1 != 0) = false := by simpa using h1
    have h2' : (e2 != 0) = true := by simp; exact fun h => h0 ⟨h1, h⟩
    clear h0 h1
    go_wp2
    (try simp only [Exit.inBlock, Exit.then])
    refine bodyPost_ret (v := .tuple #[VM Me.zero NS NS, .int .i64 4]) ?_ rfl (ra_no HE.out (HG.out _ (grown_trans (grown_trans (grown_trans (grown_trans (grown_trans (grown_trans (grown_trans (grown_trans (grown_trans (grown_trans (grown_trans (grown_trans (grown_trans (grown_trans (grown_set1 _ _ _ _) (grown_set1 _ _ _ _)) (grown_set1 _ _ _ _)) (grown_set1 _ _ _ _)) (grown_set1 _ _ _ _)) (grown_set1 _ _ _ _)) (grown_set1 _ _ _ _)) (grown_set1 _ _ _ _)) (grown_set1 _ _ _ _)) (grown_set1 _ _ _ _)) (grown_set1 _ _ _ _)) (grown_set1 _ _ _ _)) (grown_set1 _ _ _ _)) (grown_set1 _ _ _ _)) (grown_set1 _ _ _ _))))
    rw [results_cell_tmp rfl]
    go_simp
    exact ⟨rfl, rfl, rfl, rfl, rfl, rfl, rfl, rfl, rfl, rfl, rfl, rfl, rfl⟩
  · have h1' : (e1 != 0) = true := by simpa using h1
    clear h0 h1
    go_wp2
    (try simp only [Exit.inBlock, Exit.then])
    refine bodyPost_ret (v := .tuple #[VM Me.zero NS NS, .int .i64 4]) ?_ rfl (ra_no HE.out (HG.out _ (grown_trans (grown_trans (grown_trans (grown_trans (grown_trans (grown_trans (grown_trans (grown_trans (grown_trans (grown_trans (grown_trans (grown_trans (grown_trans (grown_trans (grown_set1 _ _ _ _) (grown_set1 _ _ _ _)) (grown_set1 _ _ _ _)) (grown_set1 _ _ _ _)) (grown_set1 _ _ _ _)) (grown_set1 _ _ _ _)) (grown_set1 _ _ _ _)) (grown_set1 _ _ _ _)) (grown_set1 _ _ _ _)) (grown_set1 _ _ _ _)) (grown_set1 _ _ _ _)) (grown_set1 _ _ _ _)) (grown_set1 _ _ _ _)) (grown_set1 _ _ _ _)) (grown_set1 _ _ _ _))))
    rw [results_cell_tmp rfl]
    go_simp
    exact ⟨rfl, rfl, rfl, rfl, rfl, rfl, rfl, rfl, rfl, rfl, rfl, rfl, rfl⟩
end Go.Proofs.YtlmoibicepppmaaDoor
