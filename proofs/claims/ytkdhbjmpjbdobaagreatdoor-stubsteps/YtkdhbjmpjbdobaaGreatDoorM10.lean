/-
  The texts WNeed, WNum, WData, WMan, WLives, as one.
-/
import Derived.Defers
import Derived.Recover
import Derived.Laws.ResultCell
import Derived.Test.YtkdhbjmpjbdobaaGreatDoorM9
/- WNeed -/
namespace Go.Proofs.YtkdhbjmpjbdobaaGreatDoor
open Go.ChangeShapes Go.WideShapes Go.ChangeAt Go.RowKit Go.Deep Me
set_option maxRecDepth 100000
/-- What reading gives up with. -/
abbrev PB : Ending := .panicked [{ v := .iface 157 (.agg #[]), recovered := false }]
theorem need_yes (w : World) : Calls Tryz.prog 121 #[.bool true] w fun e w' => e = .returned (.tuple #[]) ∧ w' = w := by
  go_enter Tryz.func121, Tryz.ntmps121
  go_wp2
  go_end0
  exact ⟨rfl, rfl⟩
theorem need_no (w : World) : Calls Tryz.prog 121 #[.bool false] w fun e w' => e = PB ∧ w' = w := by
  go_enter Tryz.func121, Tryz.ntmps121
  go_wp2
  simp [bodyPost]
theorem grown_set1 (w : World) (A o : Nat) (v : Value) : w.grownBy (w.setCell ⟨A, o, none⟩ v) (some A) := ⟨rfl, rfl, rfl, by simp [World.setCell], fun k _ hne => Below.heap_setCell _ _ _ _ (fun e => hne (by rw [e]))⟩
/-- The box of what is left of a value. -/
abbrev Vb (w : World) (X : Nat) (s : ByteArray) : Prop := Boxed w X 213 (.string s)
set_option maxRecDepth 100000 in
theorem vnum_no (s : ByteArray) (z : Int) (X : Nat) (w : World) (hX : Vb w X s) (h : (s.size : Int) < z) : Calls Tryz.prog 151 #[.pointer (some ⟨X, 0, none⟩), .int .i64 z] w fun e w' => e = PB ∧ Below w.heap.size w w' := by
  have hc := hX.cell
  have hl : ¬ z ≤ (s.size : Int) := by omega
  clear hX h
  go_enter Tryz.func151, Tryz.ntmps151
  go_wp2_with fail
  refine (need_no _).mono ?_
  rintro e w1 ⟨rfl, rfl⟩
  go_wp2
  simp [bodyPost]
  exact Below.refl _ _
set_option maxRecDepth 100000 in
theorem vnum_yes (s : ByteArray) (z : Nat) (X : Nat) (w : World) (hX : Vb w X s) (h : z ≤ s.size) (hs : s.size ≤ 1099511627776) : Calls Tryz.prog 151 #[.pointer (some ⟨X, 0, none⟩), .int .i64 z] w fun e w' => e = .returned (.int .i64 (Pl.numVal (s.extract 0 z))) ∧ Vb w' X (s.extract z s.size) ∧ w.grownBy w' (some X) := by
  have hc := hX.cell
  have hf := hX.frozen
  have hl : (z : Int) ≤ (s.size : Int) := by omega
  have HX : Hid (Vb w X s) := hX
  have HZ : Hid ((s.extract 0 z).size ≤ maxLen) := by show _ ≤ _; rw [ByteArray.size_extract]; unfold maxLen; omega
  clear hX
  go_enter Tryz.func151, Tryz.ntmps151
  go_wp2_with fail
  refine (need_yes _).mono ?_
  rintro e w1 ⟨rfl, rfl⟩
  go_wp2_with fail
  refine (number_any _ _ HZ.out).mono ?_
  rintro e w1 ⟨rfl, rfl⟩
  go_wp2
  go_ret
  exact ⟨rfl, HX.out.set _, grown_set1 _ _ _ _⟩
/-- The letter: a box of its fields, which lie below it. -/
structure Lt (w : World) (L : Nat) (v : Value) (l : List (Int × ByteArray)) : Prop where
  box : Boxed w L 192 v
  row : FieldsAt L w v l
theorem Lt.up {w w' : World} {L : Nat} {v : Value} {l : List (Int × ByteArray)} (h : Lt w L v l) (hb : Below w.heap.size w w') : Lt w' L v l := ⟨h.box.kept (row := none) (grown_of_below hb none) (by simp), h.row.below hb (Nat.le_of_lt h.box.lt)⟩
abbrev BV (s : ByteArray) : Obj := .cells #[.string s] 213
set_option maxRecDepth 100000 in
theorem next_nil (tag : Int) (L : Nat) (v : Value) (w : World) (h : Lt w L v []) : Calls Tryz.prog 150 #[.pointer (some ⟨L, 0, none⟩), .int .i64 tag] w fun e w' => e = .returned (.tuple #[.agg #[.string ⟨#[]⟩], .bool false]) ∧ Below w.heap.size w w' := by
  obtain ⟨ao, cap, rfl⟩ : ∃ ao cap, v = .slice ao 0 cap := by
    rcases h.row with ⟨ao, cap, rfl, -⟩ | ⟨b, off, cap, rfl, -⟩
    · exact ⟨_, _, rfl⟩
    · exact ⟨_, _, rfl⟩
  have hc := (h.box.alloc (BV ⟨#[]⟩)).cell
  clear h
  go_enter Tryz.func150, Tryz.ntmps150
  go_wp2
  (try simp only [Exit.inBlock, Exit.then])
  refine bodyPost_ret (v := .tuple #[.agg #[.string ⟨#[]⟩], .bool false]) ?_ rfl ⟨rfl, below_alloc _ _⟩
  rw [results_cell_tmp rfl]
  go_simp
set_option maxRecDepth 100000 in
theorem next_no (tag t : Int) (s : ByteArray) (l : List (Int × ByteArray)) (L : Nat) (v : Value) (w : World) (h : Lt w L v ((t, s) :: l)) (ht : t ≠ tag) : Calls Tryz.prog 150 #[.pointer (some ⟨L, 0, none⟩), .int .i64 tag] w fun e w' => e = .returned (.tuple #[.agg #[.string ⟨#[]⟩], .bool false]) ∧ Below w.heap.size w w' := by
  have hL := h.box.lt
  have hc := (h.box.alloc (BV ⟨#[]⟩)).cell
  obtain ⟨b, off, cap, rfl, hb, hm, d0, d1⟩ : ∃ b off cap, v = .slice (some ⟨b, off, none⟩) (l.length + 1) cap ∧ b < L ∧ l.length + 1 ≤ cap ∧ w.cell? ⟨b, off, none⟩ = some (.int .i64 t) ∧ w.cell? ⟨b, off + 1, none⟩ = some (.string s) := by
    rcases h.row with ⟨ao, cap, -, h⟩ | ⟨b, off, cap, rfl, hb, hp, hlc, hm, hx⟩
    · cases h
    · have := hx 0 hp
      simp at this
      exact ⟨b, off, cap, by simp, hb, by simpa using hlc, this.1, this.2⟩
  rw [← cell_older (by omega) (BV ⟨#[]⟩)] at d0 d1
  have e1 : ¬ ((l.length : Int) + 1 = 0) := by omega
  have e2 : (0 : Int) < (l.length : Int) + 1 := by omega
  have e3 : (((l.length + 1 : Nat) : Int) == 0) = false := by simp; omega
  have e4 : (t != tag) = true := by simpa using ht
  clear h hm ht
  go_enter Tryz.func150, Tryz.ntmps150
  go_wp2
  (try simp only [Exit.inBlock, Exit.then])
  refine bodyPost_ret (v := .tuple #[.agg #[.string ⟨#[]⟩], .bool false]) ?_ rfl ⟨rfl, below_alloc _ _⟩
  rw [results_cell_tmp rfl]
  go_simp
theorem lt_rest {w : World} {L b off cap : Nat} {t : Int} {s : ByteArray} {l : List (Int × ByteArray)} (h : Lt w L (.slice (some ⟨b, off, none⟩) (l.length + 1) cap) ((t, s) :: l)) (v' : Value) (hv : (l = [] ∧ ∃ ao c, v' = .slice ao 0 c) ∨ v' = .slice (some ⟨b, off + 2, none⟩) l.length (cap - 1)) (o1 o2 : Obj) :
    (∃ y, Lt (((w.setCell ⟨L, 0, none⟩ v').alloc o1).alloc o2) L y l) ∧ w.grownBy (((w.setCell ⟨L, 0, none⟩ v').alloc o1).alloc o2) (some L) := by
  have hg : w.grownBy (((w.setCell ⟨L, 0, none⟩ v').alloc o1).alloc o2) (some L) := grown_trans (grown_trans (grown_set1 _ _ _ _) (World.grownBy_alloc _ _ _)) (World.grownBy_alloc _ _ _)
  have hbl : Below L w (((w.setCell ⟨L, 0, none⟩ v').alloc o1).alloc o2) := ⟨hg.os, hg.tape, hg.output, hg.size, fun k hk => hg.block k (by have := h.box.lt; omega) (by simp; omega)⟩
  refine ⟨⟨v', ((h.box.set v').alloc o1).alloc o2, FieldsAt.below ?_ hbl (Nat.le_refl _)⟩, hg⟩
  by_cases hl : l = []
  · subst hl
    rcases hv with ⟨-, ao, c, rfl⟩ | rfl
    · exact .inl ⟨_, _, rfl, rfl⟩
    · exact .inl ⟨_, _, rfl, rfl⟩
  · rcases hv with ⟨h0, -⟩ | rfl
    · exact absurd h0 hl
    · have hp : 0 < l.length := List.length_pos_iff.2 hl
      rcases h.row with ⟨ao, c, -, h0⟩ | ⟨b', off', cap', e, hb, -, hlc, hm, hx⟩
      · cases h0
      · simp only [Value.slice.injEq, Option.some.injEq, Addr.mk.injEq, and_true] at e
        obtain ⟨⟨rfl, rfl⟩, -, rfl⟩ := e
        rw [List.length_cons] at hlc
        refine .inr ⟨b, off + 2, cap - 1, rfl, hb, hp, by omega, by omega, fun i hi => ?_⟩
        have := hx (i + 1) (by rw [List.length_cons]; omega)
        rw [show off + (i + 1) * 2 = off + 2 + i * 2 by omega] at this
        simpa using this
set_option maxRecDepth 100000 in
theorem next_yes (t : Int) (s : ByteArray) (l : List (Int × ByteArray)) (L : Nat) (v : Value) (w : World) (h : Lt w L v ((t, s) :: l)) : Calls Tryz.prog 150 #[.pointer (some ⟨L, 0, none⟩), .int .i64 t] w fun e w' => e = .returned (.tuple #[.agg #[.string s], .bool true]) ∧ (∃ v', Lt w' L v' l) ∧ w.grownBy w' (some L) := by
  have HL : Hid (Lt w L v ((t, s) :: l)) := h
  have hL := h.box.lt
  have hc := (h.box.alloc (BV ⟨#[]⟩)).cell
  have hc2 := ((h.box.alloc (BV ⟨#[]⟩)).alloc (BV s)).cell
  have hf2 := ((h.box.alloc (BV ⟨#[]⟩)).alloc (BV s)).frozen
  obtain ⟨b, off, cap, rfl, hb, hm, d0, d1⟩ : ∃ b off cap, v = .slice (some ⟨b, off, none⟩) (l.length + 1) cap ∧ b < L ∧ l.length + 1 ≤ cap ∧ w.cell? ⟨b, off, none⟩ = some (.int .i64 t) ∧ w.cell? ⟨b, off + 1, none⟩ = some (.string s) := by
    rcases h.row with ⟨ao, cap, -, h⟩ | ⟨b, off, cap, rfl, hb, hp, hlc, hm, hx⟩
    · cases h
    · have := hx 0 hp
      simp at this
      exact ⟨b, off, cap, by simp, hb, by simpa using hlc, this.1, this.2⟩
  rw [← cell_older (by omega) (BV ⟨#[]⟩)] at d0 d1
  have e1 : ¬ ((l.length : Int) + 1 = 0) := by omega
  have e2 : (0 : Int) < (l.length : Int) + 1 := by omega
  have e3 : (((l.length + 1 : Nat) : Int) == 0) = false := by simp; omega
  have e4 : (t != t) = false := by simp
  have e5 : (1 : Int) ≤ (l.length : Int) + 1 := by omega
  have e6 : (l.length : Int) + 1 ≤ (cap : Int) := by omega
  have n1 : ¬ L = w.heap.size := by omega
  have n2 : ¬ L = w.heap.size + 1 := by omega
  have n3 : ¬ w.heap.size = L := by omega
  have n4 : ¬ w.heap.size + 1 = L := by omega
  clear h
  go_enter Tryz.func150, Tryz.ntmps150
  go_wp2
  all_goals
    (try simp only [Exit.inBlock, Exit.then])
    refine bodyPost_ret (v := .tuple #[.agg #[.string s], .bool true]) ?_ rfl ⟨rfl, lt_rest HL.out _ ?_ _ _⟩
    · rw [results_cell_tmp rfl]
      go_simp
    · first
      | exact .inr rfl
      | exact .inl ⟨List.eq_nil_of_length_eq_zero (by omega), _, _, by rw [show l.length = 0 by omega]⟩
end Go.Proofs.YtkdhbjmpjbdobaaGreatDoor
/- WNum -/
namespace Go.Proofs.YtkdhbjmpjbdobaaGreatDoor
open Go.ChangeShapes Go.WideShapes Go.ChangeAt Go.RowKit Go.Deep Me
set_option maxRecDepth 100000
theorem grown_off {w w' : World} (h : Below w.heap.size w w') (row : Option Nat) : w.grownBy w' row := grown_of_below h row
/-- What is turned is the letter's box alone, and blocks that are new. -/
theorem grown_new {w w1 w2 : World} {L X : Nat} (h1 : w.grownBy w1 (some L)) (hX : w.heap.size ≤ X) (h2 : w1.grownBy w2 (some X)) : w.grownBy w2 (some L) :=
  ⟨h2.os.trans h1.os, h2.tape.trans h1.tape, h2.output.trans h1.output, Nat.le_trans h1.size h2.size, fun k hk hne => (h2.block k (Nat.lt_of_lt_of_le hk h1.size) (by simp; omega)).trans (h1.block k hk hne)⟩
theorem Lt.grown {w w' : World} {L X : Nat} {v : Value} {l : List (Int × ByteArray)} (h : Lt w L v l) (hX : L < X) (hg : w.grownBy w' (some X)) : Lt w' L v l := by
  have hL := h.box.lt
  refine ⟨h.box.kept hg (by simp; omega), h.row.below (C := L) ⟨hg.os, hg.tape, hg.output, hg.size, fun k hk => hg.block k (by omega) (by simp; omega)⟩ (Nat.le_refl _)⟩
theorem toList_full {s : ByteArray} (h : ¬ s.size = 0) : s.toList.isEmpty = false := by
  rw [ByteArray.toList_eq, ← Bool.not_eq_true, List.isEmpty_iff]
  intro h2
  apply h
  have : s.data.toList.length = 0 := by rw [h2]; rfl
  simpa using this
theorem toList_none {s : ByteArray} (h : s.size = 0) : s.toList.isEmpty = true := by
  rw [ByteArray.toList_eq, List.isEmpty_iff]
  apply List.eq_nil_of_length_eq_zero
  simpa using h
theorem lnum_skip (tag z : Int) (L : Nat) (v : Value) (l : List (Int × ByteArray)) (w : World) (h : Lt w L v l) (hl : ∀ x, l.head? = some x → x.1 ≠ tag) : Calls Tryz.prog 122 #[.pointer (some ⟨L, 0, none⟩), .int .i64 tag, .int .i64 z] w fun e w' => e = .returned (.int .i64 0) ∧ Below w.heap.size w w' := by
  have HN : Hid (∀ V, Lt V L v l → Calls Tryz.prog 150 #[.pointer (some ⟨L, 0, none⟩), .int .i64 tag] V fun e w' => e = .returned (.tuple #[.agg #[.string ⟨#[]⟩], .bool false]) ∧ Below V.heap.size V w') := fun V hV => by
    match l, hV, hl with
    | [], hV, _ => exact next_nil tag L v V hV
    | (t, s) :: l, hV, hl => exact next_no tag t s l L v V hV (hl _ rfl)
  have HL : Hid (Lt w L v l) := h
  clear h hl
  go_enter Tryz.func122, Tryz.ntmps122
  go_wp2_with fail
  refine (HN.out _ HL.out).mono ?_
  rintro e w1 ⟨rfl, hb1⟩
  have HB : Hid (Below w.heap.size w w1) := hb1
  clear hb1
  go_wp2
  go_ret
  exact ⟨rfl, bup HB.out (below_alloc _ _)⟩
set_option maxRecDepth 100000 in
theorem lnum_short (tag : Int) (z : Int) (L : Nat) (v : Value) (s : ByteArray) (l : List (Int × ByteArray)) (w : World) (h : Lt w L v ((tag, s) :: l)) (hz : (s.size : Int) < z) : Calls Tryz.prog 122 #[.pointer (some ⟨L, 0, none⟩), .int .i64 tag, .int .i64 z] w fun e w' => e = PB ∧ w.grownBy w' (some L) := by
  have HL : Hid (Lt w L v ((tag, s) :: l)) := h
  have HZ : Hid ((s.size : Int) < z) := hz
  clear h hz
  go_enter Tryz.func122, Tryz.ntmps122
  go_wp2_with fail
  refine (next_yes tag s l L v _ HL.out).mono ?_
  rintro e w1 ⟨rfl, -, hg1⟩
  have HG : Hid (w.grownBy w1 (some L)) := hg1
  clear hg1
  go_wp2_with fail
  refine (vnum_no s z _ _ (Boxed.new _ _ _) HZ.out).mono ?_
  rintro e w2 ⟨rfl, hb2⟩
  have HG2 : Hid (w.grownBy w2 (some L)) := grown_trans HG.out (grown_of_below (bup (below_alloc _ _) hb2) _)
  clear hb2
  go_wp2
  simp [bodyPost]
  exact HG2.out
set_option maxRecDepth 100000 in
theorem lnum_bad (tag : Int) (z : Nat) (L : Nat) (v : Value) (s : ByteArray) (l : List (Int × ByteArray)) (w : World) (h : Lt w L v ((tag, s) :: l)) (hz : z ≤ s.size) (hs : s.size ≤ 1099511627776) (hb : Pl.numVal (s.extract 0 z) = 0 ∨ z < s.size) : Calls Tryz.prog 122 #[.pointer (some ⟨L, 0, none⟩), .int .i64 tag, .int .i64 z] w fun e w' => e = PB ∧ w.grownBy w' (some L) := by
  have HL : Hid (Lt w L v ((tag, s) :: l)) := h
  have HZ : Hid (z ≤ s.size ∧ s.size ≤ 1099511627776) := ⟨hz, hs⟩
  have HE : Hid (z < s.size → (s.extract z s.size).toList.isEmpty = false) := fun h => toList_full (by rw [ByteArray.size_extract]; omega)
  clear h hz hs
  go_enter Tryz.func122, Tryz.ntmps122
  go_wp2_with fail
  refine (next_yes tag s l L v _ HL.out).mono ?_
  rintro e w1 ⟨rfl, -, hg1⟩
  have HG : Hid (w.grownBy w1 (some L)) := hg1
  clear hg1
  go_wp2_with fail
  refine (vnum_yes s z _ _ (Boxed.new _ _ _) HZ.out.1 HZ.out.2).mono ?_
  rintro e w2 ⟨rfl, hv2, hg2⟩
  have HG2 : Hid (w.grownBy w2 (some L)) := grown_new (grown_trans HG.out (grown_of_below (below_alloc _ _) _)) HG.out.size hg2
  have hc := hv2.cell
  clear hv2 hg2
  by_cases hn : Pl.numVal (s.extract 0 z) = 0
  · have hn' : (Pl.numVal (s.extract 0 z) != 0) = false := by rw [hn]; rfl
    go_wp2_with fail
    refine (need_no _).mono ?_
    rintro e w3 ⟨rfl, rfl⟩
    go_wp2
    simp [bodyPost]
    exact HG2.out
  · have hn' : (Pl.numVal (s.extract 0 z) != 0) = true := by simpa using hn
    have hem := HE.out (by omega)
    go_wp2_with fail
    refine (need_no _).mono ?_
    rintro e w3 ⟨rfl, rfl⟩
    go_wp2
    simp [bodyPost]
    exact HG2.out
theorem extract_all' (s : ByteArray) : s.extract 0 s.size = s := by
  rw [Pl.extract_txt, List.take_of_length_le (by simp), List.drop_zero, Pl.txt_toList]
set_option maxRecDepth 100000 in
theorem lnum_ok (tag : Int) (z : Nat) (L : Nat) (v : Value) (s : ByteArray) (l : List (Int × ByteArray)) (w : World) (h : Lt w L v ((tag, s) :: l)) (hz : s.size = z) (hs : s.size ≤ 1099511627776) (hb : Pl.numVal s ≠ 0) : Calls Tryz.prog 122 #[.pointer (some ⟨L, 0, none⟩), .int .i64 tag, .int .i64 z] w fun e w' => e = .returned (.int .i64 (Pl.numVal s)) ∧ (∃ v', Lt w' L v' l) ∧ w.grownBy w' (some L) := by
  have HL : Hid (Lt w L v ((tag, s) :: l)) := h
  have hLt := h.box.lt
  have HZ : Hid (z ≤ s.size ∧ s.size ≤ 1099511627776) := ⟨by omega, hs⟩
  have hem : (s.extract z s.size).toList.isEmpty = true := toList_none (by rw [ByteArray.size_extract]; omega)
  have HX : Hid (s.extract 0 z = s) := by show _ = _; rw [← hz]; exact extract_all' s
  have hn' : (Pl.numVal s != 0) = true := by simpa using hb
  clear h hz hs
  go_enter Tryz.func122, Tryz.ntmps122
  go_wp2_with fail
  refine (next_yes tag s l L v _ HL.out).mono ?_
  rintro e w1 ⟨rfl, ⟨v1, hl1⟩, hg1⟩
  have HG : Hid (w.grownBy w1 (some L)) := hg1
  have HL1 : Hid (Lt w1 L v1 l) := hl1
  clear hg1 hl1
  go_wp2_with fail
  refine (vnum_yes s z _ _ (Boxed.new _ _ _) HZ.out.1 HZ.out.2).mono ?_
  rintro e w2 ⟨rfl, hv2, hg2⟩
  rw [HX.out]
  have HG2 : Hid (w.grownBy w2 (some L)) := grown_new (grown_trans HG.out (grown_of_below (below_alloc _ _) _)) HG.out.size hg2
  have HL2 : Hid (Lt w2 L v1 l) := (HL1.out.up (below_alloc _ _)).grown (by have := HL1.out.box.lt; omega) hg2
  have hc := hv2.cell
  clear hv2 hg2
  go_wp2_with fail
  refine (need_yes _).mono ?_
  rintro e w3 ⟨rfl, rfl⟩
  go_wp2
  go_ret
  exact ⟨rfl, ⟨v1, HL2.out⟩, HG2.out⟩
/-- The number of a tag, off a list of fields. -/
def pNum (tag : Int) (z : Nat) : List (Int × ByteArray) → Option (Int × List (Int × ByteArray))
  | [] => some (0, [])
  | (t, s) :: l => if t = tag then (if s.size = z ∧ Pl.numVal s ≠ 0 then some (Pl.numVal s, l) else none) else some (0, (t, s) :: l)
/-- What a reader leaves behind: an answer and the fields that are left, or it gave up. -/
def Rd {α : Type} (L : Nat) (w : World) (q : Option (α × List (Int × ByteArray))) (A : α → Value → World → Prop) (e : Ending) (w' : World) : Prop :=
  w.grownBy w' (some L) ∧ (∀ a r, q = some (a, r) → (∃ u, e = .returned u ∧ A a u w') ∧ ∃ v', Lt w' L v' r) ∧ (q = none → e = PB)
theorem lnum_any (tag : Int) (z : Nat) (L : Nat) (v : Value) (l : List (Int × ByteArray)) (w : World) (h : Lt w L v l) (hs : ∀ x ∈ l, x.2.size ≤ 65535) : Calls Tryz.prog 122 #[.pointer (some ⟨L, 0, none⟩), .int .i64 tag, .int .i64 z] w (Rd L w (pNum tag z l) fun a u _ => u = .int .i64 a) := by
  match l, h, hs with
  | [], h, hs =>
    refine (lnum_skip tag z L v [] w h (by simp)).mono ?_
    rintro e w' ⟨rfl, hb⟩
    refine ⟨grown_of_below hb _, ?_, fun h => by simp [pNum] at h⟩
    rintro a r e
    simp only [pNum, Option.some.injEq, Prod.mk.injEq] at e
    obtain ⟨rfl, rfl⟩ := e
    exact ⟨⟨_, rfl, rfl⟩, v, h.up hb⟩
  | (t, s) :: l, h, hs =>
    have hss := hs _ (List.mem_cons_self ..)
    simp only at hss
    by_cases ht : t = tag
    · subst ht
      by_cases hz : s.size = z ∧ Pl.numVal s ≠ 0
      · refine (lnum_ok t z L v s l w h hz.1 (by omega) hz.2).mono ?_
        rintro e w' ⟨rfl, hl, hg⟩
        refine ⟨hg, ?_, fun h => by simp [pNum, hz] at h⟩
        rintro a r e
        simp only [pNum, if_true, if_pos hz, Option.some.injEq, Prod.mk.injEq] at e
        obtain ⟨rfl, rfl⟩ := e
        exact ⟨⟨_, rfl, rfl⟩, hl⟩
      · have hq : pNum t z ((t, s) :: l) = none := by simp only [pNum, if_true, if_neg hz]
        have hcl : ∀ (e : Ending) (w' : World), (e = PB ∧ w.grownBy w' (some L)) → Rd L w (pNum t z ((t, s) :: l)) (fun a u _ => u = .int .i64 a) e w' := by
          rintro e w' ⟨rfl, hg⟩
          refine ⟨hg, ?_, fun _ => rfl⟩
          rintro a r e
          rw [hq] at e
          cases e
        by_cases hlt : s.size < z
        · exact (lnum_short t z L v s l w h (by omega)).mono hcl
        · refine (lnum_bad t z L v s l w h (by omega) (by omega) ?_).mono hcl
          by_cases he : s.size = z
          · left
            have : Pl.numVal s = 0 := Classical.byContradiction fun hn => hz ⟨he, hn⟩
            rw [← he, extract_all']
            exact this
          · right
            omega
    · refine (lnum_skip tag z L v ((t, s) :: l) w h (by rintro x hx; simp at hx; subst hx; exact ht)).mono ?_
      rintro e w' ⟨rfl, hb⟩
      refine ⟨grown_of_below hb _, ?_, fun h => by simp [pNum, ht] at h⟩
      rintro a r e
      simp only [pNum, if_neg ht, Option.some.injEq, Prod.mk.injEq] at e
      obtain ⟨rfl, rfl⟩ := e
      exact ⟨⟨_, rfl, rfl⟩, v, h.up hb⟩
end Go.Proofs.YtkdhbjmpjbdobaaGreatDoor
/- WData -/
namespace Go.Proofs.YtkdhbjmpjbdobaaGreatDoor
open Go.ChangeShapes Go.WideShapes Go.ChangeAt Go.RowKit Go.Deep Me
set_option maxRecDepth 100000
theorem next_skip (tag : Int) (L : Nat) (v : Value) (l : List (Int × ByteArray)) (w : World) (h : Lt w L v l) (hl : ∀ x, l.head? = some x → x.1 ≠ tag) : Calls Tryz.prog 150 #[.pointer (some ⟨L, 0, none⟩), .int .i64 tag] w fun e w' => e = .returned (.tuple #[.agg #[.string ⟨#[]⟩], .bool false]) ∧ Below w.heap.size w w' := by
  match l, h, hl with
  | [], h, _ => exact next_nil tag L v w h
  | (t, s) :: l, h, hl => exact next_no tag t s l L v w h (hl _ rfl)
theorem data_skip (L : Nat) (v : Value) (l : List (Int × ByteArray)) (w : World) (h : Lt w L v l) (hl : ∀ x, l.head? = some x → x.1 ≠ 13) : Calls Tryz.prog 126 #[.pointer (some ⟨L, 0, none⟩)] w fun e w' => e = .returned (.string ⟨#[]⟩) ∧ Below w.heap.size w w' := by
  have HN : Hid (Lt w L v l ∧ ∀ x, l.head? = some x → x.1 ≠ 13) := ⟨h, hl⟩
  clear h hl
  go_enter Tryz.func126, Tryz.ntmps126
  go_wp2_with fail
  refine (next_skip 13 L v l _ HN.out.1 HN.out.2).mono ?_
  rintro e w1 ⟨rfl, hb1⟩
  have HB : Hid (Below w.heap.size w (w1.alloc (BV ⟨#[]⟩))) := bup hb1 (below_alloc _ _)
  clear hb1
  go_wp2_with fail
  refine (need_yes _).mono ?_
  rintro e w3 ⟨rfl, rfl⟩
  go_wp2
  go_ret
  exact ⟨rfl, HB.out⟩
set_option maxRecDepth 100000 in
theorem data_full (L : Nat) (v : Value) (s : ByteArray) (l : List (Int × ByteArray)) (w : World) (h : Lt w L v ((13, s) :: l)) (hs : ¬ s.size = 0) : Calls Tryz.prog 126 #[.pointer (some ⟨L, 0, none⟩)] w fun e w' => e = .returned (.string s) ∧ (∃ v', Lt w' L v' l) ∧ w.grownBy w' (some L) := by
  have HL : Hid (Lt w L v ((13, s) :: l)) := h
  have hem := toList_full hs
  clear h hs
  go_enter Tryz.func126, Tryz.ntmps126
  go_wp2_with fail
  refine (next_yes 13 s l L v _ HL.out).mono ?_
  rintro e w1 ⟨rfl, ⟨v1, hl1⟩, hg1⟩
  have HG : Hid (w.grownBy (w1.alloc (BV s)) (some L)) := grown_trans hg1 (grown_of_below (below_alloc _ _) _)
  have HL1 : Hid (Lt (w1.alloc (BV s)) L v1 l) := hl1.up (below_alloc _ _)
  clear hg1 hl1
  go_wp2_with fail
  refine (need_yes _).mono ?_
  rintro e w3 ⟨rfl, rfl⟩
  go_wp2
  go_ret
  exact ⟨rfl, ⟨v1, HL1.out⟩, HG.out⟩
set_option maxRecDepth 100000 in
theorem data_bad (L : Nat) (v : Value) (s : ByteArray) (l : List (Int × ByteArray)) (w : World) (h : Lt w L v ((13, s) :: l)) (hs : s.size = 0) : Calls Tryz.prog 126 #[.pointer (some ⟨L, 0, none⟩)] w fun e w' => e = PB ∧ w.grownBy w' (some L) := by
  have HL : Hid (Lt w L v ((13, s) :: l)) := h
  have hem := toList_none hs
  clear h hs
  go_enter Tryz.func126, Tryz.ntmps126
  go_wp2_with fail
  refine (next_yes 13 s l L v _ HL.out).mono ?_
  rintro e w1 ⟨rfl, ⟨v1, hl1⟩, hg1⟩
  have HG : Hid (w.grownBy (w1.alloc (BV s)) (some L)) := grown_trans hg1 (grown_of_below (below_alloc _ _) _)
  clear hg1 hl1
  go_wp2_with fail
  refine (need_no _).mono ?_
  rintro e w3 ⟨rfl, rfl⟩
  go_wp2
  simp [bodyPost]
  exact HG.out
/-- The bytes, off a list of fields. -/
def pData : List (Int × ByteArray) → Option (ByteArray × List (Int × ByteArray))
  | [] => some (⟨#[]⟩, [])
  | (t, s) :: l => if t = 13 then (if s.size = 0 then none else some (s, l)) else some (⟨#[]⟩, (t, s) :: l)
theorem data_any (L : Nat) (v : Value) (l : List (Int × ByteArray)) (w : World) (h : Lt w L v l) : Calls Tryz.prog 126 #[.pointer (some ⟨L, 0, none⟩)] w (Rd L w (pData l) fun a u _ => u = .string a) := by
  match l, h with
  | [], h =>
    refine (data_skip L v [] w h (by simp)).mono ?_
    rintro e w' ⟨rfl, hb⟩
    refine ⟨grown_of_below hb _, ?_, fun h => by simp [pData] at h⟩
    rintro a r e
    simp only [pData, Option.some.injEq, Prod.mk.injEq] at e
    obtain ⟨rfl, rfl⟩ := e
    exact ⟨⟨_, rfl, rfl⟩, v, h.up hb⟩
  | (t, s) :: l, h =>
    by_cases ht : t = 13
    · subst ht
      by_cases hz : s.size = 0
      · refine (data_bad L v s l w h hz).mono ?_
        rintro e w' ⟨rfl, hg⟩
        refine ⟨hg, ?_, fun _ => rfl⟩
        rintro a r e
        simp [pData, hz] at e
      · refine (data_full L v s l w h hz).mono ?_
        rintro e w' ⟨rfl, hl, hg⟩
        refine ⟨hg, ?_, fun h => by simp [pData, hz] at h⟩
        rintro a r e
        simp only [pData, if_true, if_neg hz, Option.some.injEq, Prod.mk.injEq] at e
        obtain ⟨rfl, rfl⟩ := e
        exact ⟨⟨_, rfl, rfl⟩, hl⟩
    · refine (data_skip L v ((t, s) :: l) w h (by rintro x hx; simp at hx; subst hx; exact ht)).mono ?_
      rintro e w' ⟨rfl, hb⟩
      refine ⟨grown_of_below hb _, ?_, fun h => by simp [pData, ht] at h⟩
      rintro a r e
      simp only [pData, if_neg ht, Option.some.injEq, Prod.mk.injEq] at e
      obtain ⟨rfl, rfl⟩ := e
      exact ⟨⟨_, rfl, rfl⟩, v, h.up hb⟩
end Go.Proofs.YtkdhbjmpjbdobaaGreatDoor
/- WMan -/
namespace Go.Proofs.YtkdhbjmpjbdobaaGreatDoor
open Go.ChangeShapes Go.WideShapes Go.ChangeAt Go.RowKit Go.Deep Me
set_option maxRecDepth 100000
abbrev BMn (a b c : Int) : Obj := .cells #[.int .i64 a, .int .i64 b, .int .i64 c] 69
theorem set_at {w : World} {A : Nat} {cs : Array Value} {t : TypeId} (h : w.heap[A]? = some (.cells cs t)) (k : Nat) (u : Value) : (w.setCell ⟨A, k, none⟩ u).heap[A]? = some (.cells (cs.setIfInBounds k u) t) := by
  simp [World.setCell, Array.getElem?_modify, h]
theorem cell_at {w : World} {A : Nat} {cs : Array Value} {t : TypeId} (h : w.heap[A]? = some (.cells cs t)) (k : Nat) : w.cell? ⟨A, k, none⟩ = cs[k]? := by simp [World.cell?, h]
theorem fr_at {w : World} {A : Nat} {cs : Array Value} {t : TypeId} (h : w.heap[A]? = some (.cells cs t)) (k : Nat) : w.frozen? ⟨A, k, none⟩ = false := by simp [World.frozen?, h]
theorem results_cell1 {fn : Func} {p : Tmp} {ty : TypeId} (h : fn.results = #[.cell p ty]) (tmps : Array Value) (P : Program) (w : World) :
    (results fn tmps).run P w = ((asAddr (tmps.getD p undef)).run P w).andThen fun a w₁ => (loadVar ty a).run P w₁ := by
  simp only [results, h]
  simp [Sem.run_bind, Result.andThen]
structure Ms (w0 : World) (L Y X : Nat) (r : List (Int × ByteArray)) (s : ByteArray) (a b c : Int) (v : Value) (w : World) : Prop where
  lt : Lt w L v r
  mn : w.heap[Y]? = some (BMn a b c)
  vb : Vb w X s
  gr : w0.grownBy w (some L)
  h0 : w0.heap.size ≤ Y
  hL : L < Y
  hX : Y < X
theorem Ms.num {w0 w w' : World} {L Y X : Nat} {r : List (Int × ByteArray)} {s s' : ByteArray} {a b c : Int} {v : Value} (h : Ms w0 L Y X r s a b c v w) (hv : Vb w' X s') (hg : w.grownBy w' (some X)) : Ms w0 L Y X r s' a b c v w' := by
  have h1 := h.h0; have h2 := h.hL; have h3 := h.hX
  exact ⟨h.lt.grown (by omega) hg, (hg.block Y (block_lt h.mn) (by simp; omega)).trans h.mn, hv, grown_new h.gr (by omega) hg, h1, h2, h3⟩
theorem Ms.put {w0 w : World} {L Y X : Nat} {r : List (Int × ByteArray)} {s : ByteArray} {a b c a' b' c' : Int} {v : Value} (h : Ms w0 L Y X r s a b c v w) (k : Nat) (u : Value) (hk : (#[.int .i64 a, .int .i64 b, .int .i64 c] : Array Value).setIfInBounds k u = #[.int .i64 a', .int .i64 b', .int .i64 c']) : Ms w0 L Y X r s a' b' c' v (w.setCell ⟨Y, k, none⟩ u) := by
  have h1 := h.h0; have h2 := h.hL; have h3 := h.hX
  have hg := grown_set1 w Y k u
  refine ⟨h.lt.grown (by omega) hg, by rw [set_at h.mn, hk], h.vb.kept hg (by simp; omega), grown_new h.gr (by omega) hg, h1, h2, h3⟩
theorem Ms.cells {w0 w : World} {L Y X : Nat} {r : List (Int × ByteArray)} {s : ByteArray} {a b c : Int} {v : Value} (h : Ms w0 L Y X r s a b c v w) : w.cell? ⟨Y, 0, none⟩ = some (.int .i64 a) ∧ w.cell? ⟨Y, 1, none⟩ = some (.int .i64 b) ∧ w.cell? ⟨Y, 2, none⟩ = some (.int .i64 c) ∧ w.frozen? ⟨Y, 0, none⟩ = false ∧ w.frozen? ⟨Y, 1, none⟩ = false ∧ w.frozen? ⟨Y, 2, none⟩ = false :=
  ⟨cell_at h.mn 0, cell_at h.mn 1, cell_at h.mn 2, fr_at h.mn 0, fr_at h.mn 1, fr_at h.mn 2⟩
theorem Ms.start {w w1 : World} {L : Nat} {r : List (Int × ByteArray)} {s : ByteArray} {v v' : Value} {l : List (Int × ByteArray)} (h : Lt w L v l) (hl : Lt w1 L v' r) (hg : (w.alloc (BMn 0 0 0)).grownBy w1 (some L)) : Ms w L w.heap.size w1.heap.size r s 0 0 0 v' (w1.alloc (BV s)) := by
  have hL := h.box.lt
  have hs := hg.size
  simp at hs
  refine ⟨hl.up (below_alloc _ _), ?_, Boxed.new _ _ _, grown_trans (grown_trans (grown_of_below (below_alloc _ _) _) hg) (grown_of_below (below_alloc _ _) _), Nat.le_refl _, hL, by omega⟩
  exact blk ((hg.block w.heap.size (by simp) (by simp; omega)).trans (heap_alloc_new _ _)) (below_alloc _ _)
theorem man_skip (L : Nat) (v : Value) (l : List (Int × ByteArray)) (w : World) (h : Lt w L v l) (hl : ∀ x, l.head? = some x → x.1 ≠ 11) : Calls Tryz.prog 125 #[.pointer (some ⟨L, 0, none⟩)] w fun e w' => e = .returned (VMan 0 0 0) ∧ Below w.heap.size w w' := by
  have HN : Hid (Lt (w.alloc (BMn 0 0 0)) L v l ∧ ∀ x, l.head? = some x → x.1 ≠ 11) := ⟨h.up (below_alloc _ _), hl⟩
  clear h hl
  go_enter Tryz.func125, Tryz.ntmps125
  go_wp2_with fail
  refine (next_skip 11 L v l _ HN.out.1 HN.out.2).mono ?_
  rintro e w1 ⟨rfl, hb1⟩
  have HB : Hid (Below w.heap.size w (w1.alloc (BV ⟨#[]⟩))) := bup (bup (below_alloc _ _) hb1) (below_alloc _ _)
  have hm : (w1.alloc (BV ⟨#[]⟩)).heap[w.heap.size]? = some (BMn 0 0 0) := blk (blk (heap_alloc_new _ _) hb1) (below_alloc _ _)
  have m0 := cell_at hm 0
  have m1 := cell_at hm 1
  have m2 := cell_at hm 2
  have f0 := fr_at hm 0
  have f1 := fr_at hm 1
  have f2 := fr_at hm 2
  simp at m0 m1 m2
  clear hb1 hm
  go_wp2
  (try simp only [Exit.inBlock, Exit.then])
  refine bodyPost_ret (v := VMan 0 0 0) ?_ rfl ⟨rfl, ?_⟩
  · rw [results_cell1 rfl]
    go_simp
  · repeat (refine Below.setCell ?_ (by simp) _)
    exact HB.out
set_option maxRecDepth 100000 in
theorem man_short0 (L : Nat) (v : Value) (s : ByteArray) (l : List (Int × ByteArray)) (w : World) (h : Lt w L v ((11, s) :: l)) (hs : s.size ≤ 65535) (hneed : s.size < 6) : Calls Tryz.prog 125 #[.pointer (some ⟨L, 0, none⟩)] w fun e w' => e = PB ∧ w.grownBy w' (some L) := by
  have HL : Hid (Lt w L v ((11, s) :: l)) := h
  have HLW : Hid (Lt (w.alloc (BMn 0 0 0)) L v ((11, s) :: l)) := h.up (below_alloc _ _)
  have HS : Hid (s.size ≤ 65535) := hs
  clear h hs
  go_enter Tryz.func125, Tryz.ntmps125
  go_wp2_with fail
  refine (next_yes 11 s l L v _ HLW.out).mono ?_
  rintro e w1 ⟨rfl, ⟨v1, hl1⟩, hg1⟩
  have M0 : Hid (Ms w L w.heap.size w1.heap.size l s 0 0 0 v1 (w1.alloc (BV s))) := Ms.start HL.out hl1 hg1
  clear hg1 hl1
  obtain ⟨r1, hr1⟩ : ∃ r, s.extract 6 s.size = r := ⟨_, rfl⟩
  obtain ⟨r2, hr2⟩ : ∃ r, r1.extract 2 r1.size = r := ⟨_, rfl⟩
  obtain ⟨r3, hr3⟩ : ∃ r, r2.extract 4 r2.size = r := ⟨_, rfl⟩
  have HR : Hid (s.extract 6 s.size = r1 ∧ r1.extract 2 r1.size = r2 ∧ r2.extract 4 r2.size = r3) := ⟨hr1, hr2, hr3⟩
  have HSZ : Hid (s.size ≤ 65535 ∧ r1.size = s.size - 6 ∧ r2.size = s.size - 6 - 2 ∧ r3.size = s.size - 6 - 2 - 4 ∧ s.size < 6) := by
    have h1 : r1.size = s.size - 6 := by rw [← hr1, ByteArray.size_extract]; omega
    have h2 : r2.size = r1.size - 2 := by rw [← hr2, ByteArray.size_extract]; omega
    have h3 : r3.size = r2.size - 4 := by rw [← hr3, ByteArray.size_extract]; omega
    exact ⟨HS.out, h1, by omega, by omega, hneed⟩
  clear hr1 hr2 hr3 hneed
  go_wp2_with fail
  refine (vnum_no s 6 _ _ M0.out.vb (by have := HSZ.out; omega)).mono ?_
  rintro e x0 ⟨rfl, hb⟩
  have HG : Hid (w.grownBy x0 (some L)) := grown_trans M0.out.gr (grown_of_below hb _)
  clear hb
  go_wp2
  simp [bodyPost]
  exact HG.out
set_option maxRecDepth 100000 in
theorem man_short1 (L : Nat) (v : Value) (s : ByteArray) (l : List (Int × ByteArray)) (w : World) (h : Lt w L v ((11, s) :: l)) (hs : s.size ≤ 65535) (hneed : 6 ≤ s.size ∧ s.size < 8) : Calls Tryz.prog 125 #[.pointer (some ⟨L, 0, none⟩)] w fun e w' => e = PB ∧ w.grownBy w' (some L) := by
  have HL : Hid (Lt w L v ((11, s) :: l)) := h
  have HLW : Hid (Lt (w.alloc (BMn 0 0 0)) L v ((11, s) :: l)) := h.up (below_alloc _ _)
  have HS : Hid (s.size ≤ 65535) := hs
  clear h hs
  go_enter Tryz.func125, Tryz.ntmps125
  go_wp2_with fail
  refine (next_yes 11 s l L v _ HLW.out).mono ?_
  rintro e w1 ⟨rfl, ⟨v1, hl1⟩, hg1⟩
  have M0 : Hid (Ms w L w.heap.size w1.heap.size l s 0 0 0 v1 (w1.alloc (BV s))) := Ms.start HL.out hl1 hg1
  clear hg1 hl1
  obtain ⟨r1, hr1⟩ : ∃ r, s.extract 6 s.size = r := ⟨_, rfl⟩
  obtain ⟨r2, hr2⟩ : ∃ r, r1.extract 2 r1.size = r := ⟨_, rfl⟩
  obtain ⟨r3, hr3⟩ : ∃ r, r2.extract 4 r2.size = r := ⟨_, rfl⟩
  have HR : Hid (s.extract 6 s.size = r1 ∧ r1.extract 2 r1.size = r2 ∧ r2.extract 4 r2.size = r3) := ⟨hr1, hr2, hr3⟩
  have HSZ : Hid (s.size ≤ 65535 ∧ r1.size = s.size - 6 ∧ r2.size = s.size - 6 - 2 ∧ r3.size = s.size - 6 - 2 - 4 ∧ 6 ≤ s.size ∧ s.size < 8) := by
    have h1 : r1.size = s.size - 6 := by rw [← hr1, ByteArray.size_extract]; omega
    have h2 : r2.size = r1.size - 2 := by rw [← hr2, ByteArray.size_extract]; omega
    have h3 : r3.size = r2.size - 4 := by rw [← hr3, ByteArray.size_extract]; omega
    exact ⟨HS.out, h1, by omega, by omega, hneed⟩
  clear hr1 hr2 hr3 hneed
  go_wp2_with fail
  refine (vnum_yes s 6 _ _ M0.out.vb (by have := HSZ.out; omega) (by have := HSZ.out; omega)).mono ?_
  rintro e x0 ⟨rfl, hv, hg⟩
  rw [HR.out.1] at hv
  obtain ⟨a0, ha0⟩ : ∃ a, Pl.numVal (s.extract 0 6) = a := ⟨_, rfl⟩
  have HA0 : Hid (Pl.numVal (s.extract 0 6) = a0) := ha0
  rw [ha0]
  have N0 := M0.out.num hv hg
  obtain ⟨m0, m1, m2, f0, f1, f2⟩ := N0.cells
  have M1 : Hid (Ms w L w.heap.size w1.heap.size l r1 a0 0 0 v1 (x0.setCell ⟨w.heap.size, 0, none⟩ (.int .i64 a0))) := N0.put 0 _ rfl
  clear hv hg N0 M0 ha0
  go_wp2_with fail
  refine (vnum_no r1 2 _ _ M1.out.vb (by have := HSZ.out; omega)).mono ?_
  rintro e x1 ⟨rfl, hb⟩
  have HG : Hid (w.grownBy x1 (some L)) := grown_trans M1.out.gr (grown_of_below hb _)
  clear hb
  go_wp2
  simp [bodyPost]
  exact HG.out
set_option maxRecDepth 100000 in
theorem man_short2 (L : Nat) (v : Value) (s : ByteArray) (l : List (Int × ByteArray)) (w : World) (h : Lt w L v ((11, s) :: l)) (hs : s.size ≤ 65535) (hneed : 8 ≤ s.size ∧ s.size < 12) : Calls Tryz.prog 125 #[.pointer (some ⟨L, 0, none⟩)] w fun e w' => e = PB ∧ w.grownBy w' (some L) := by
  have HL : Hid (Lt w L v ((11, s) :: l)) := h
  have HLW : Hid (Lt (w.alloc (BMn 0 0 0)) L v ((11, s) :: l)) := h.up (below_alloc _ _)
  have HS : Hid (s.size ≤ 65535) := hs
  clear h hs
  go_enter Tryz.func125, Tryz.ntmps125
  go_wp2_with fail
  refine (next_yes 11 s l L v _ HLW.out).mono ?_
  rintro e w1 ⟨rfl, ⟨v1, hl1⟩, hg1⟩
  have M0 : Hid (Ms w L w.heap.size w1.heap.size l s 0 0 0 v1 (w1.alloc (BV s))) := Ms.start HL.out hl1 hg1
  clear hg1 hl1
  obtain ⟨r1, hr1⟩ : ∃ r, s.extract 6 s.size = r := ⟨_, rfl⟩
  obtain ⟨r2, hr2⟩ : ∃ r, r1.extract 2 r1.size = r := ⟨_, rfl⟩
  obtain ⟨r3, hr3⟩ : ∃ r, r2.extract 4 r2.size = r := ⟨_, rfl⟩
  have HR : Hid (s.extract 6 s.size = r1 ∧ r1.extract 2 r1.size = r2 ∧ r2.extract 4 r2.size = r3) := ⟨hr1, hr2, hr3⟩
  have HSZ : Hid (s.size ≤ 65535 ∧ r1.size = s.size - 6 ∧ r2.size = s.size - 6 - 2 ∧ r3.size = s.size - 6 - 2 - 4 ∧ 8 ≤ s.size ∧ s.size < 12) := by
    have h1 : r1.size = s.size - 6 := by rw [← hr1, ByteArray.size_extract]; omega
    have h2 : r2.size = r1.size - 2 := by rw [← hr2, ByteArray.size_extract]; omega
    have h3 : r3.size = r2.size - 4 := by rw [← hr3, ByteArray.size_extract]; omega
    exact ⟨HS.out, h1, by omega, by omega, hneed⟩
  clear hr1 hr2 hr3 hneed
  go_wp2_with fail
  refine (vnum_yes s 6 _ _ M0.out.vb (by have := HSZ.out; omega) (by have := HSZ.out; omega)).mono ?_
  rintro e x0 ⟨rfl, hv, hg⟩
  rw [HR.out.1] at hv
  obtain ⟨a0, ha0⟩ : ∃ a, Pl.numVal (s.extract 0 6) = a := ⟨_, rfl⟩
  have HA0 : Hid (Pl.numVal (s.extract 0 6) = a0) := ha0
  rw [ha0]
  have N0 := M0.out.num hv hg
  obtain ⟨m0, m1, m2, f0, f1, f2⟩ := N0.cells
  have M1 : Hid (Ms w L w.heap.size w1.heap.size l r1 a0 0 0 v1 (x0.setCell ⟨w.heap.size, 0, none⟩ (.int .i64 a0))) := N0.put 0 _ rfl
  clear hv hg N0 M0 ha0
  go_wp2_with fail
  clear m0 m1 m2 f0 f1 f2
  refine (vnum_yes r1 2 _ _ M1.out.vb (by have := HSZ.out; omega) (by have := HSZ.out; omega)).mono ?_
  rintro e x1 ⟨rfl, hv, hg⟩
  rw [HR.out.2.1] at hv
  obtain ⟨a1, ha1⟩ : ∃ a, Pl.numVal (r1.extract 0 2) = a := ⟨_, rfl⟩
  have HA1 : Hid (Pl.numVal (r1.extract 0 2) = a1) := ha1
  rw [ha1]
  have N1 := M1.out.num hv hg
  obtain ⟨m0, m1, m2, f0, f1, f2⟩ := N1.cells
  have M2 : Hid (Ms w L w.heap.size w1.heap.size l r2 a0 a1 0 v1 (x1.setCell ⟨w.heap.size, 1, none⟩ (.int .i64 a1))) := N1.put 1 _ rfl
  clear hv hg N1 M1 ha1
  go_wp2_with fail
  refine (vnum_no r2 4 _ _ M2.out.vb (by have := HSZ.out; omega)).mono ?_
  rintro e x2 ⟨rfl, hb⟩
  have HG : Hid (w.grownBy x2 (some L)) := grown_trans M2.out.gr (grown_of_below hb _)
  clear hb
  go_wp2
  simp [bodyPost]
  exact HG.out
set_option maxRecDepth 100000 in
theorem man_bad (L : Nat) (v : Value) (s : ByteArray) (l : List (Int × ByteArray)) (w : World) (h : Lt w L v ((11, s) :: l)) (hs : s.size ≤ 65535) (hneed : 12 ≤ s.size) : Calls Tryz.prog 125 #[.pointer (some ⟨L, 0, none⟩)] w fun e w' => ∃ a0 a1 a2, (a0 = Pl.numVal (s.extract 0 6) ∧ a1 = Pl.numVal ((s.extract 6 s.size).extract 0 2) ∧ a2 = Pl.numVal (((s.extract 6 s.size).extract 2 (s.extract 6 s.size).size).extract 0 4)) ∧ ((manZ a0 a1 a2 = true ∨ 12 < s.size) → e = PB ∧ w.grownBy w' (some L)) ∧ (manZ a0 a1 a2 = false → s.size = 12 → e = .returned (VMan a0 a1 a2) ∧ (∃ v', Lt w' L v' l) ∧ w.grownBy w' (some L)) := by
  have HL : Hid (Lt w L v ((11, s) :: l)) := h
  have HLW : Hid (Lt (w.alloc (BMn 0 0 0)) L v ((11, s) :: l)) := h.up (below_alloc _ _)
  have HS : Hid (s.size ≤ 65535) := hs
  clear h hs
  go_enter Tryz.func125, Tryz.ntmps125
  go_wp2_with fail
  refine (next_yes 11 s l L v _ HLW.out).mono ?_
  rintro e w1 ⟨rfl, ⟨v1, hl1⟩, hg1⟩
  have M0 : Hid (Ms w L w.heap.size w1.heap.size l s 0 0 0 v1 (w1.alloc (BV s))) := Ms.start HL.out hl1 hg1
  clear hg1 hl1
  obtain ⟨r1, hr1⟩ : ∃ r, s.extract 6 s.size = r := ⟨_, rfl⟩
  obtain ⟨r2, hr2⟩ : ∃ r, r1.extract 2 r1.size = r := ⟨_, rfl⟩
  obtain ⟨r3, hr3⟩ : ∃ r, r2.extract 4 r2.size = r := ⟨_, rfl⟩
  have HR : Hid (s.extract 6 s.size = r1 ∧ r1.extract 2 r1.size = r2 ∧ r2.extract 4 r2.size = r3) := ⟨hr1, hr2, hr3⟩
  have HSZ : Hid (s.size ≤ 65535 ∧ r1.size = s.size - 6 ∧ r2.size = s.size - 6 - 2 ∧ r3.size = s.size - 6 - 2 - 4 ∧ 12 ≤ s.size) := by
    have h1 : r1.size = s.size - 6 := by rw [← hr1, ByteArray.size_extract]; omega
    have h2 : r2.size = r1.size - 2 := by rw [← hr2, ByteArray.size_extract]; omega
    have h3 : r3.size = r2.size - 4 := by rw [← hr3, ByteArray.size_extract]; omega
    exact ⟨HS.out, h1, by omega, by omega, hneed⟩
  clear hr1 hr2 hr3 hneed
  go_wp2_with fail
  refine (vnum_yes s 6 _ _ M0.out.vb (by have := HSZ.out; omega) (by have := HSZ.out; omega)).mono ?_
  rintro e x0 ⟨rfl, hv, hg⟩
  rw [HR.out.1] at hv
  obtain ⟨a0, ha0⟩ : ∃ a, Pl.numVal (s.extract 0 6) = a := ⟨_, rfl⟩
  have HA0 : Hid (Pl.numVal (s.extract 0 6) = a0) := ha0
  rw [ha0]
  have N0 := M0.out.num hv hg
  obtain ⟨m0, m1, m2, f0, f1, f2⟩ := N0.cells
  have M1 : Hid (Ms w L w.heap.size w1.heap.size l r1 a0 0 0 v1 (x0.setCell ⟨w.heap.size, 0, none⟩ (.int .i64 a0))) := N0.put 0 _ rfl
  clear hv hg N0 M0 ha0
  go_wp2_with fail
  clear m0 m1 m2 f0 f1 f2
  refine (vnum_yes r1 2 _ _ M1.out.vb (by have := HSZ.out; omega) (by have := HSZ.out; omega)).mono ?_
  rintro e x1 ⟨rfl, hv, hg⟩
  rw [HR.out.2.1] at hv
  obtain ⟨a1, ha1⟩ : ∃ a, Pl.numVal (r1.extract 0 2) = a := ⟨_, rfl⟩
  have HA1 : Hid (Pl.numVal (r1.extract 0 2) = a1) := ha1
  rw [ha1]
  have N1 := M1.out.num hv hg
  obtain ⟨m0, m1, m2, f0, f1, f2⟩ := N1.cells
  have M2 : Hid (Ms w L w.heap.size w1.heap.size l r2 a0 a1 0 v1 (x1.setCell ⟨w.heap.size, 1, none⟩ (.int .i64 a1))) := N1.put 1 _ rfl
  clear hv hg N1 M1 ha1
  go_wp2_with fail
  clear m0 m1 m2 f0 f1 f2
  refine (vnum_yes r2 4 _ _ M2.out.vb (by have := HSZ.out; omega) (by have := HSZ.out; omega)).mono ?_
  rintro e x2 ⟨rfl, hv, hg⟩
  rw [HR.out.2.2] at hv
  obtain ⟨a2, ha2⟩ : ∃ a, Pl.numVal (r2.extract 0 4) = a := ⟨_, rfl⟩
  have HA2 : Hid (Pl.numVal (r2.extract 0 4) = a2) := ha2
  rw [ha2]
  have N2 := M2.out.num hv hg
  obtain ⟨m0, m1, m2, f0, f1, f2⟩ := N2.cells
  have M3 : Hid (Ms w L w.heap.size w1.heap.size l r3 a0 a1 a2 v1 (x2.setCell ⟨w.heap.size, 2, none⟩ (.int .i64 a2))) := N2.put 2 _ rfl
  clear hv hg N2 M2 ha2
  have HE : Hid (a0 = Pl.numVal (s.extract 0 6) ∧ a1 = Pl.numVal ((s.extract 6 s.size).extract 0 2) ∧ a2 = Pl.numVal (((s.extract 6 s.size).extract 2 (s.extract 6 s.size).size).extract 0 4)) := by
    show _ ∧ _ ∧ _
    rw [HR.out.1, HR.out.2.1]
    exact ⟨HA0.out.symm, HA1.out.symm, HA2.out.symm⟩
  have hnq := fun V => neq_man V a0 a1 a2
  obtain ⟨i0, i1, i2, j0, j1, j2⟩ := M3.out.cells
  have hvc := M3.out.vb.cell
  cases hz : manZ a0 a1 a2 with
  | true =>
    rw [hz] at hnq
    go_wp2_with fail
    refine (need_no _).mono ?_
    rintro e x4 ⟨rfl, rfl⟩
    go_wp2
    simp only [bodyPost]
    refine ⟨trivial, a0, a1, a2, HE.out, fun _ => ⟨trivial, M3.out.gr⟩, fun h => ?_⟩
    rw [hz] at h
    cases h
  | false =>
    rw [hz] at hnq
    by_cases h12 : 12 < s.size
    · have hem : r3.toList.isEmpty = false := toList_full (by have := HSZ.out; omega)
      go_wp2_with fail
      refine (need_no _).mono ?_
      rintro e x4 ⟨rfl, rfl⟩
      go_wp2
      simp only [bodyPost]
      exact ⟨trivial, a0, a1, a2, HE.out, fun _ => ⟨trivial, M3.out.gr⟩, fun _ h => by omega⟩
    · have hem : r3.toList.isEmpty = true := toList_none (by have := HSZ.out; omega)
      go_wp2_with fail
      refine (need_yes _).mono ?_
      rintro e x4 ⟨rfl, rfl⟩
      go_wp2
      (try simp only [Exit.inBlock, Exit.then])
      refine bodyPost_ret (v := VMan a0 a1 a2) ?_ rfl ⟨a0, a1, a2, HE.out, fun h => ?_, fun _ _ => ⟨rfl, ⟨v1, ((M3.out.put 0 _ rfl).put 1 _ rfl |>.put 2 _ rfl).lt⟩, ((M3.out.put 0 _ rfl).put 1 _ rfl |>.put 2 _ rfl).gr⟩⟩
      · rw [results_cell1 rfl]
        go_simp
      · rw [hz] at h
        rcases h with h | h
        · cases h
        · exact absurd h h12
def mn0 (s : ByteArray) : Int := Pl.numVal (s.extract 0 6)
def mn1 (s : ByteArray) : Int := Pl.numVal ((s.extract 6 s.size).extract 0 2)
def mn2 (s : ByteArray) : Int := Pl.numVal (((s.extract 6 s.size).extract 2 (s.extract 6 s.size).size).extract 0 4)
theorem mn0_eq (s : ByteArray) : mn0 s = Pl.numVal (s.extract 0 6) := by unfold mn0; rfl
theorem mn1_eq (s : ByteArray) : mn1 s = Pl.numVal ((s.extract 6 s.size).extract 0 2) := by unfold mn1; rfl
theorem mn2_eq (s : ByteArray) : mn2 s = Pl.numVal (((s.extract 6 s.size).extract 2 (s.extract 6 s.size).size).extract 0 4) := by unfold mn2; rfl
/-- The manifest, off a list of fields. -/
def pMan : List (Int × ByteArray) → Option ((Int × Int × Int) × List (Int × ByteArray))
  | [] => some ((0, 0, 0), [])
  | (t, s) :: l => if t = 11 then (if s.size = 12 ∧ manZ (mn0 s) (mn1 s) (mn2 s) = false then some ((mn0 s, mn1 s, mn2 s), l) else none) else some ((0, 0, 0), (t, s) :: l)
theorem man_any (L : Nat) (v : Value) (l : List (Int × ByteArray)) (w : World) (h : Lt w L v l) (hs : ∀ x ∈ l, x.2.size ≤ 65535) : Calls Tryz.prog 125 #[.pointer (some ⟨L, 0, none⟩)] w (Rd L w (pMan l) fun a u _ => u = VMan a.1 a.2.1 a.2.2) := by
  match l, h, hs with
  | [], h, _ =>
    refine (man_skip L v [] w h (by simp)).mono ?_
    rintro e w' ⟨rfl, hb⟩
    refine ⟨grown_of_below hb _, ?_, fun h => by simp [pMan] at h⟩
    rintro a r e
    simp only [pMan, Option.some.injEq, Prod.mk.injEq] at e
    obtain ⟨rfl, rfl⟩ := e
    exact ⟨⟨_, rfl, rfl⟩, v, h.up hb⟩
  | (t, s) :: l, h, hs =>
    have hss := hs _ (List.mem_cons_self ..)
    simp only at hss
    by_cases ht : t = 11
    · subst ht
      have hcl : pMan ((11, s) :: l) = none → ∀ (e : Ending) (w' : World), (e = PB ∧ w.grownBy w' (some L)) → Rd L w (pMan ((11, s) :: l)) (fun a u _ => u = VMan a.1 a.2.1 a.2.2) e w' := by
        rintro hq e w' ⟨rfl, hg⟩
        refine ⟨hg, ?_, fun _ => rfl⟩
        rintro a r e
        rw [hq] at e
        cases e
      have hno : ¬ s.size = 12 → pMan ((11, s) :: l) = none := fun h => by simp only [pMan, if_true]; rw [if_neg (fun hh => h hh.1)]
      by_cases h0 : s.size < 6
      · exact (man_short0 L v s l w h hss h0).mono (hcl (hno (by omega)))
      by_cases h1 : s.size < 8
      · exact (man_short1 L v s l w h hss ⟨by omega, h1⟩).mono (hcl (hno (by omega)))
      by_cases h2 : s.size < 12
      · exact (man_short2 L v s l w h hss ⟨by omega, h2⟩).mono (hcl (hno (by omega)))
      refine (man_bad L v s l w h hss (by omega)).mono ?_
      rintro e w' ⟨a0, a1, a2, ⟨ha0, ha1, ha2⟩, hbad, hok⟩
      rw [← mn0_eq] at ha0
      rw [← mn1_eq] at ha1
      rw [← mn2_eq] at ha2
      rw [ha0, ha1, ha2] at hbad hok
      by_cases hz : manZ (mn0 s) (mn1 s) (mn2 s) = true
      · have hq : pMan ((11, s) :: l) = none := by simp only [pMan, if_true]; rw [if_neg (fun hh => by rw [hz] at hh; cases hh.2)]
        exact hcl hq e w' (hbad (.inl hz))
      · have hz' : manZ (mn0 s) (mn1 s) (mn2 s) = false := by simpa using hz
        by_cases h12 : 12 < s.size
        · exact hcl (hno (by omega)) e w' (hbad (.inr h12))
        · have e12 : s.size = 12 := by omega
          have hq : pMan ((11, s) :: l) = some ((mn0 s, mn1 s, mn2 s), l) := by simp only [pMan, if_true]; rw [if_pos ⟨e12, hz'⟩]
          have hok' := hok hz' e12
          clear hbad hok hz hz' ha0 ha1 ha2
          generalize mn0 s = b0 at *
          generalize mn1 s = b1 at *
          generalize mn2 s = b2 at *
          obtain ⟨rfl, hl, hg⟩ := hok'
          refine ⟨hg, ?_, fun h => by rw [hq] at h; cases h⟩
          rintro a r e
          rw [hq] at e
          simp only [Option.some.injEq, Prod.mk.injEq] at e
          obtain ⟨rfl, rfl⟩ := e
          exact ⟨⟨_, rfl, rfl⟩, hl⟩
    · refine (man_skip L v ((t, s) :: l) w h (by rintro x hx; simp at hx; subst hx; exact ht)).mono ?_
      rintro e w' ⟨rfl, hb⟩
      refine ⟨grown_of_below hb _, ?_, fun h => by simp [pMan, ht] at h⟩
      rintro a r e
      simp only [pMan, if_neg ht, Option.some.injEq, Prod.mk.injEq] at e
      obtain ⟨rfl, rfl⟩ := e
      exact ⟨⟨_, rfl, rfl⟩, v, h.up hb⟩
end Go.Proofs.YtkdhbjmpjbdobaaGreatDoor
/- WLives -/
namespace Go.Proofs.YtkdhbjmpjbdobaaGreatDoor
open Go.ChangeShapes Go.WideShapes Go.ChangeAt Go.RowKit Go.Deep Me
set_option maxRecDepth 100000
/-- The lives, off a list of fields. -/
def pLives : List (Int × ByteArray) → Option (List Int × List (Int × ByteArray))
  | [] => some ([], [])
  | (t, s) :: l => if t = 9 then (if s.size = 6 then (pLives l).map fun q => (Pl.numVal s :: q.1, q.2) else none) else some ([], (t, s) :: l)
theorem pLives_skip {l : List (Int × ByteArray)} (hl : ∀ x, l.head? = some x → x.1 ≠ 9) : pLives l = some ([], l) := by
  match l, hl with
  | [], _ => rfl
  | (t, s) :: l, hl => simp only [pLives]; rw [if_neg (hl _ rfl)]
theorem infoI : (Tryz.prog.info? 3).map (fun i => (i.zero, i.size, i.bytes)) = some (some (.int .i64 0), 1, 8) := by kernel_rfl
theorem at_oneI {w : World} {A : Nat} {y : Int} (h : w.heap[A]? = some (.cells #[.int .i64 y] 3)) : AtW EI w (.slice (some ⟨A, 0, none⟩) 1 1) [y] := by
  refine .inr ⟨A, 0, 1, rfl, trivial, (Array.getElem?_eq_some_iff.1 h).1, by simp, by simp, by unfold maxLen; omega, fun j u hj => ?_⟩
  have c0 : w.cell? ⟨A, 0, none⟩ = some (.int .i64 y) := by simp [World.cell?, h]
  match j, hj with
  | 0, hj => simp [Enc.flat, EI] at hj; subst hj; exact c0
theorem Row.stay {α : Type} {E : Enc α} {w w' : World} {B X : Nat} {e : TypeId} {v : Value} {ls : List α} (h : Row E w B e v ls) (hg : w.grownBy w' (some X)) (hne : v.ownBlock ≠ some X) : Row E w' B e v ls := by
  rcases h with h | ⟨g, cap, cur, rfl, hB, hh, hr⟩
  · exact .inl h
  · refine .inr ⟨g, cap, cur, rfl, hB, (hg.block g (block_lt hh) (fun e => hne ?_)).trans hh, hr⟩
    simp at e
    subst e
    rfl
theorem Row.ne_low {α : Type} {E : Enc α} {w : World} {B X : Nat} {e : TypeId} {v : Value} {ls : List α} (h : Row E w B e v ls) (hX : X < B) : v.ownBlock ≠ some X := by
  rcases h with ⟨rfl, -⟩ | ⟨g, cap, cur, rfl, hB, -⟩
  · simp [Value.ownBlock]
  · simp [Value.ownBlock]; omega
theorem Row.ne_kind {α : Type} {E : Enc α} {w : World} {B X : Nat} {e e' : TypeId} {v : Value} {ls : List α} {cs : Array Value} {z : Nat × Nat} (h : Row E w B e v ls) (h' : w.heap[X]? = some (.cells cs e' z)) (he : e ≠ e') : v.ownBlock ≠ some X := by
  rcases h.off h' he with e | e
  · rw [e]; simp
  · exact e
/-- How many fields are left. -/
def leftOf (L : Nat) (w : World) : Nat := match w.cell? ⟨L, 0, none⟩ with
  | some (.slice _ n _) => n
  | _ => 0
theorem Lt.left {w : World} {L : Nat} {v : Value} {l : List (Int × ByteArray)} (h : Lt w L v l) : leftOf L w = l.length := by
  unfold leftOf
  rw [h.box.cell]
  rcases h.row with ⟨ao, cap, rfl, rfl⟩ | ⟨b, off, cap, rfl, -⟩
  · rfl
  · rfl
/-- What holds at each round's head. -/
structure Lv (w0 : World) (L : Nat) (l r : List (Int × ByteArray)) (acc : List Int) (u : Value) (w : World) : Prop where
  lt : ∃ v, Lt w L v r
  row : Row EI w w0.heap.size 3 u acc
  gr : w0.grownBy w (some L)
  hL : L < w0.heap.size
  eq : pLives l = (pLives r).map fun q => (acc ++ q.1, q.2)
  sz : ∀ x ∈ r, x.2.size ≤ 65535
  len : acc.length + r.length ≤ 60000
theorem Lv.start {w : World} {L : Nat} {v : Value} {l : List (Int × ByteArray)} (h : Lt w L v l) (hs : ∀ x ∈ l, x.2.size ≤ 65535) (hl : l.length ≤ 60000) : Lv w L l l [] (.slice none 0 0) w :=
  ⟨⟨v, h⟩, Row.nil _ _ _ _, grown_refl _ _, h.box.lt, by cases pLives l <;> simp, hs, by simpa using hl⟩
/-- Behind a field's taking: the value in a box of its own. -/
structure Lw (w0 : World) (L X : Nat) (l r : List (Int × ByteArray)) (acc : List Int) (s : ByteArray) (u : Value) (w : World) : Prop where
  lt : ∃ v, Lt w L v r
  row : Row EI w w0.heap.size 3 u acc
  gr : w0.grownBy w (some L)
  vb : Vb w X s
  hL : L < w0.heap.size
  hX : w0.heap.size ≤ X
theorem Lw.num {w0 w w' : World} {L X : Nat} {l r : List (Int × ByteArray)} {acc : List Int} {s s' : ByteArray} {u : Value} (h : Lw w0 L X l r acc s u w) (hv : Vb w' X s') (hg : w.grownBy w' (some X)) : Lw w0 L X l r acc s' u w' := by
  have h1 := h.hL; have h2 := h.hX
  obtain ⟨v, hl⟩ := h.lt
  exact ⟨⟨v, hl.grown (by omega) hg⟩, h.row.stay hg (h.row.ne_kind h.vb (by decide)), grown_new h.gr (by omega) hg, hv, h1, h2⟩
theorem Lw.up {w0 w w' : World} {L X : Nat} {l r : List (Int × ByteArray)} {acc : List Int} {s : ByteArray} {u : Value} (h : Lw w0 L X l r acc s u w) (hb : Below w.heap.size w w') : Lw w0 L X l r acc s u w' := by
  obtain ⟨v, hl⟩ := h.lt
  exact ⟨⟨v, hl.up hb⟩, h.row.up hb, grown_trans h.gr (grown_of_below hb _), h.vb.kept (grown_of_below hb none) (by simp), h.hL, h.hX⟩
theorem Lw.app {w0 w w' : World} {L X : Nat} {l r : List (Int × ByteArray)} {acc acc' : List Int} {s : ByteArray} {u u' : Value} (h : Lw w0 L X l r acc s u w) (hr : Row EI w' w0.heap.size 3 u' acc') (hg : w.grownBy w' u.ownBlock) : Lw w0 L X l r acc' s u' w' := by
  have h1 := h.hL; have h2 := h.hX
  have hX := h.row.ne_kind h.vb (by decide)
  have hlow : ∀ k, k < w0.heap.size → some k ≠ u.ownBlock := fun k hk e => h.row.ne_low hk e.symm
  obtain ⟨v, hl⟩ := h.lt
  refine ⟨⟨v, hl.box.kept hg (hlow L h1), hl.row.below (C := L) ⟨hg.os, hg.tape, hg.output, hg.size, fun k hk => hg.block k (by have := hl.box.lt; omega) (hlow k (by omega))⟩ (Nat.le_refl _)⟩, hr, ?_, h.vb.kept hg (fun e => hX e.symm), h1, h2⟩
  exact ⟨hg.os.trans h.gr.os, hg.tape.trans h.gr.tape, hg.output.trans h.gr.output, Nat.le_trans h.gr.size hg.size, fun k hk hne => (hg.block k (by have := h.gr.size; omega) (hlow k hk)).trans (h.gr.block k hk hne)⟩
set_option maxRecDepth 100000 in
set_option maxRecDepth 100000 in
set_option maxHeartbeats 2000000 in
theorem lives_any (L : Nat) (v : Value) (l : List (Int × ByteArray)) (w : World) (h : Lt w L v l) (hs : ∀ x ∈ l, x.2.size ≤ 65535) (hl : l.length ≤ 60000) : Calls Tryz.prog 123 #[.pointer (some ⟨L, 0, none⟩)] w (Rd L w (pLives l) fun a u w' => Row EI w' w.heap.size 3 u a) := by
  have H0 : Hid (Lv w L l l [] (.slice none 0 0) w) := Lv.start h hs hl
  obtain ⟨i0, hi, hz0, hz1, hz2⟩ := info_parts infoI
  clear h hs hl
  go_enter Tryz.func123, Tryz.ntmps123
  go_wp2
  go_loopw [3] (fun u wr => ∃ (r : List (Int × ByteArray)) (acc : List Int) (pp : Option Addr) (jj q : Nat), u = .slice pp jj q ∧ Hid (Lv w L l r acc (.slice pp jj q) wr)) (fun _ wr => leftOf L wr)
  case atStart => exact ⟨l, [], none, 0, 0, rfl, H0.out⟩
  case round =>
    obtain ⟨r, acc, pp, jj, q, rfl, HR⟩ := hrel
    clear H0
    obtain ⟨v1, hv1⟩ := HR.out.lt
    have HV : Hid (Lt wr L v1 r) := hv1
    have hlf := hv1.left
    have HLF : Hid (leftOf L wr = r.length) := hlf
    clear hv1 hlf
    by_cases hd : ∀ x, r.head? = some x → x.1 ≠ 9
    · have HP : Hid (pLives l = some (acc, r)) := by
        show _ = _
        rw [HR.out.eq, pLives_skip hd]
        simp
      have HD : Hid (∀ x, r.head? = some x → x.1 ≠ 9) := hd
      clear hd
      go_wp2_with fail
      refine (next_skip 9 L v1 r _ HV.out HD.out).mono ?_
      rintro e w1 ⟨rfl, hb1⟩
      have HB : Hid (Below wr.heap.size wr (w1.alloc (BV ⟨#[]⟩))) := bup hb1 (below_alloc _ _)
      clear hb1
      go_wp2
      go_ret
      refine ⟨grown_trans HR.out.gr (grown_of_below HB.out _), ?_, fun h => by rw [HP.out] at h; cases h⟩
      rintro a r2 e
      rw [HP.out] at e
      simp only [Option.some.injEq, Prod.mk.injEq] at e
      obtain ⟨rfl, rfl⟩ := e
      exact ⟨⟨_, rfl, HR.out.row.up HB.out⟩, v1, HV.out.up HB.out⟩
    · obtain ⟨s, r', hrr⟩ : ∃ s r', r = (9, s) :: r' := by
        match r, hd with
        | [], hd => exact absurd (by simp) hd
        | (t, s) :: r', hd =>
          by_cases ht : t = 9
          · exact ⟨s, r', by rw [ht]⟩
          · exact absurd (by intro x hx; simp at hx; subst hx; exact ht) hd
      subst hrr
      clear hd
      have HSS : Hid (s.size ≤ 65535) := HR.out.sz _ (List.mem_cons_self ..)
      have HNN : Hid (¬ s.size = 6 → pLives l = none) := fun h => by
        rw [HR.out.eq]
        simp only [pLives, if_true]
        rw [if_neg h]
        rfl
      have HYY : Hid (s.size = 6 → pLives l = (pLives r').map fun q => ((acc ++ [Pl.numVal s]) ++ q.1, q.2)) := fun h => by
        rw [HR.out.eq]
        simp only [pLives, if_true]
        rw [if_pos h]
        cases pLives r' <;> simp
      have HLN : Hid (acc.length + (r'.length + 1) ≤ 60000) := HR.out.len
      go_wp2_with fail
      refine (next_yes 9 s r' L v1 _ HV.out).mono ?_
      rintro e w1 ⟨rfl, ⟨v2, hl2⟩, hg1⟩
      have M0 : Hid (Lw w L w1.heap.size l r' acc s (.slice pp jj q) (w1.alloc (BV s))) := by
        have h1 := HR.out.hL
        have h2 := grown_trans HR.out.gr hg1
        exact ⟨⟨v2, hl2.up (below_alloc _ _)⟩, (HR.out.row.stay hg1 (HR.out.row.ne_low h1)).up (below_alloc _ _), grown_trans h2 (grown_of_below (below_alloc _ _) _), Boxed.new _ _ _, h1, h2.size⟩
      clear hg1 hl2
      by_cases h6 : s.size < 6
      · have H6 : Hid ((s.size : Int) < 6) := by show _ < _; omega
        have HP : Hid (pLives l = none) := HNN.out (by omega)
        go_wp2_with fail
        refine (vnum_no s 6 _ _ M0.out.vb H6.out).mono ?_
        rintro e w2 ⟨rfl, hb2⟩
        have HG : Hid (w.grownBy w2 (some L)) := grown_trans M0.out.gr (grown_of_below hb2 _)
        clear hb2
        go_wp2
        simp only [bodyPost]
        refine ⟨by first | trivial | rfl, HG.out, ?_, fun _ => rfl⟩
        rintro a r2 e
        rw [HP.out] at e
        cases e
      · have H6 : Hid (6 ≤ s.size) := by show _ ≤ _; omega
        go_wp2_with fail
        refine (vnum_yes s 6 _ _ M0.out.vb H6.out (by have := HSS.out; omega)).mono ?_
        rintro e w2 ⟨rfl, hv2, hg2⟩
        obtain ⟨y, hy⟩ : ∃ y, Pl.numVal (s.extract 0 6) = y := ⟨_, rfl⟩
        have HY : Hid (Pl.numVal (s.extract 0 6) = y) := hy
        rw [hy]
        have M1 : Hid (Lw w L w1.heap.size l r' acc (s.extract 6 s.size) (.slice pp jj q) (w2.alloc (.cells #[.int .i64 y] 3))) := (M0.out.num hv2 hg2).up (below_alloc _ _)
        have HO : Hid (AtW EI (w2.alloc (.cells #[.int .i64 y] 3)) (.slice (some ⟨w2.heap.size, 0, none⟩) 1 1) [y]) := at_oneI (heap_alloc_new _ _)
        clear hv2 hg2 hy M0
        by_cases h7 : s.size = 6
        · have hem : (s.extract 6 s.size).toList.isEmpty = true := toList_none (by rw [ByteArray.size_extract]; omega)
          go_wp2_with (at_builtin; refine wpList_row _ rfl _ _ 66 rfl EI (fun _ => True) w.heap.size 3 i0 _ 8 Tryz.underlying66 hi hz0 hz1 hz2 rfl _ acc (by rfl) M1.out.row _ [y] (by rfl) HO.out (by have := HLN.out; unfold maxLen; simp only [List.length_cons, List.length_nil]; omega) (by have := HLN.out; simp only [List.length_cons, List.length_nil]; omega) M1.out.gr.size ?_; intro v9 w9 hrow9 hg9 hloc9; have hM9 := M1.out.app hrow9 hg9; obtain ⟨p9, n9, c9, rfl⟩ := hM9.row.slice3; have M9 : Hid (Lw w L w1.heap.size l r' (acc ++ [y]) (s.extract 6 s.size) (.slice p9 n9 c9) w9) := hM9; have hc9 := hM9.vb.cell; clear hrow9 hg9 hloc9 hM9)
          refine (need_yes _).mono ?_
          rintro e w3 ⟨rfl, rfl⟩
          go_wp2
          have hys : y = Pl.numVal s := by rw [← HY.out, ← h7, extract_all']
          obtain ⟨v9, hv9⟩ := M9.out.lt
          go_roundw
          case rel => exact ⟨r', acc ++ [y], p9, n9, c9, rfl, ⟨⟨v9, hv9⟩, M9.out.row, M9.out.gr, M9.out.hL, by rw [hys]; exact HYY.out h7, fun x hx => HR.out.sz x (List.mem_cons_of_mem _ hx), by have := HLN.out; simp; omega⟩⟩
          case measure => rw [hv9.left, HLF.out]; simp
        · have hem : (s.extract 6 s.size).toList.isEmpty = false := toList_full (by rw [ByteArray.size_extract]; omega)
          have HP : Hid (pLives l = none) := HNN.out h7
          go_wp2_with (at_builtin; refine wpList_row _ rfl _ _ 66 rfl EI (fun _ => True) w.heap.size 3 i0 _ 8 Tryz.underlying66 hi hz0 hz1 hz2 rfl _ acc (by rfl) M1.out.row _ [y] (by rfl) HO.out (by have := HLN.out; unfold maxLen; simp only [List.length_cons, List.length_nil]; omega) (by have := HLN.out; simp only [List.length_cons, List.length_nil]; omega) M1.out.gr.size ?_; intro v9 w9 hrow9 hg9 hloc9; have hM9 := M1.out.app hrow9 hg9; obtain ⟨p9, n9, c9, rfl⟩ := hM9.row.slice3; have M9 : Hid (Lw w L w1.heap.size l r' (acc ++ [y]) (s.extract 6 s.size) (.slice p9 n9 c9) w9) := hM9; have hc9 := hM9.vb.cell; clear hrow9 hg9 hloc9 hM9)
          refine (need_no _).mono ?_
          rintro e w3 ⟨rfl, rfl⟩
          go_wp2
          simp only [bodyPost]
          refine ⟨by first | trivial | rfl, M9.out.gr, ?_, fun _ => rfl⟩
          rintro a r2 e
          rw [HP.out] at e
          cases e
end Go.Proofs.YtkdhbjmpjbdobaaGreatDoor
