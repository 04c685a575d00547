/-
  memo.need, and a number taken from the front of a value: what they answer, where they give up.
-/
import Derived.Test.YtlmoibicepppmaaDoorWRPack
import Derived.Defers
import Derived.Recover
import Derived.Laws.ResultCell
namespace Go.Proofs.YtlmoibicepppmaaDoor
open Go.ChangeShapes Go.WideShapes Go.ChangeAt Go.RowKit Go.Deep Me
set_option maxRecDepth 100000
/-- What reading gives up with. -/
abbrev PB : Ending := .panicked [{ v := .iface 93 (.agg #[]), recovered := false }]
theorem need_yes (w : World) : Calls Tryd.prog 60 #[.bool true] w fun e w' => e = .returned (.tuple #[]) ∧ w' = w := by
  go_enter Tryd.func60, Tryd.ntmps60
  go_wp2
  go_end0
  exact ⟨rfl, rfl⟩
theorem need_no (w : World) : Calls Tryd.prog 60 #[.bool false] w fun e w' => e = PB ∧ w' = w := by
  go_enter Tryd.func60, Tryd.ntmps60
  go_wp2
  simp [bodyPost]
theorem grown_set1 (w : World) (A o : Nat) (v : Value) : w.grownBy (w.setCell ⟨A, o, none⟩ v) (some A) := ⟨rfl, rfl, rfl, by simp [World.setCell], fun k _ hne => Below.heap_setCell _ _ _ _ (fun e => hne (by rw [e]))⟩
/-- The box of what is left of a value. -/
abbrev Vb (w : World) (X : Nat) (s : ByteArray) : Prop := Boxed w X 119 (.string s)
set_option maxRecDepth 100000 in
theorem vnum_no (s : ByteArray) (z : Int) (X : Nat) (w : World) (hX : Vb w X s) (h : (s.size : Int) < z) : Calls Tryd.prog 71 #[.pointer (some ⟨X, 0, none⟩), .int .i64 z] w fun e w' => e = PB ∧ Below w.heap.size w w' := by
  have hc := hX.cell
  have hl : ¬ z ≤ (s.size : Int) := by omega
  clear hX h
  go_enter Tryd.func71, Tryd.ntmps71
  go_wp2_with fail
  refine (need_no _).mono ?_
  rintro e w1 ⟨rfl, rfl⟩
  go_wp2
  simp [bodyPost]
  exact Below.refl _ _
set_option maxRecDepth 100000 in
theorem vnum_yes (s : ByteArray) (z : Nat) (X : Nat) (w : World) (hX : Vb w X s) (h : z ≤ s.size) (hs : s.size ≤ 1099511627776) : Calls Tryd.prog 71 #[.pointer (some ⟨X, 0, none⟩), .int .i64 z] w fun e w' => e = .returned (.int .i64 (Pl.numVal (s.extract 0 z))) ∧ Vb w' X (s.extract z s.size) ∧ w.grownBy w' (some X) := by
  have hc := hX.cell
  have hf := hX.frozen
  have hl : (z : Int) ≤ (s.size : Int) := by omega
  have HX : Hid (Vb w X s) := hX
  have HZ : Hid ((s.extract 0 z).size ≤ maxLen) := by show _ ≤ _; rw [ByteArray.size_extract]; unfold maxLen; omega
  clear hX
  go_enter Tryd.func71, Tryd.ntmps71
  go_wp2_with fail
  refine (need_yes _).mono ?_
  rintro e w1 ⟨rfl, rfl⟩
  go_wp2_with fail
  refine (number_any _ _ HZ.out).mono ?_
  rintro e w1 ⟨rfl, rfl⟩
  go_wp2
  go_ret
  exact ⟨rfl, HX.out.set _, grown_set1 _ _ _ _⟩
/-- The letter: a box of its fields, which lie below it. -/
structure Lt (w : World) (L : Nat) (v : Value) (l : List (Int × ByteArray)) : Prop where
  box : Boxed w L 111 v
  row : FieldsAt L w v l
theorem Lt.up {w w' : World} {L : Nat} {v : Value} {l : List (Int × ByteArray)} (h : Lt w L v l) (hb : Below w.heap.size w w') : Lt w' L v l := ⟨h.box.kept (row := none) (grown_of_below hb none) (by simp), h.row.below hb (Nat.le_of_lt h.box.lt)⟩
abbrev BV (s : ByteArray) : Obj := .cells #[.string s] 119
set_option maxRecDepth 100000 in
theorem next_nil (tag : Int) (L : Nat) (v : Value) (w : World) (h : Lt w L v []) : Calls Tryd.prog 70 #[.pointer (some ⟨L, 0, none⟩), .int .i64 tag] w fun e w' => e = .returned (.tuple #[.agg #[.string ⟨#[]⟩], .bool false]) ∧ Below w.heap.size w w' := by
  obtain ⟨ao, cap, rfl⟩ : ∃ ao cap, v = .slice ao 0 cap := by
    rcases h.row with ⟨ao, cap, rfl, -⟩ | ⟨b, off, cap, rfl, -⟩
    · exact ⟨_, _, rfl⟩
    · exact ⟨_, _, rfl⟩
  have hc := (h.box.alloc (BV ⟨#[]⟩)).cell
  clear h
  go_enter Tryd.func70, Tryd.ntmps70
  go_wp2
  (try simp only [Exit.inBlock, Exit.then])
  refine bodyPost_ret (v := .tuple #[.agg #[.string ⟨#[]⟩], .bool false]) ?_ rfl ⟨rfl, below_alloc _ _⟩
  rw [results_cell_tmp rfl]
  go_simp
set_option maxRecDepth 100000 in
theorem next_no (tag t : Int) (s : ByteArray) (l : List (Int × ByteArray)) (L : Nat) (v : Value) (w : World) (h : Lt w L v ((t, s) :: l)) (ht : t ≠ tag) : Calls Tryd.prog 70 #[.pointer (some ⟨L, 0, none⟩), .int .i64 tag] w fun e w' => e = .returned (.tuple #[.agg #[.string ⟨#[]⟩], .bool false]) ∧ Below w.heap.size w w' := by
  have hL := h.box.lt
  have hc := (h.box.alloc (BV ⟨#[]⟩)).cell
  obtain ⟨b, off, cap, rfl, hb, hm, d0, d1⟩ : ∃ b off cap, v = .slice (some ⟨b, off, none⟩) (l.length + 1) cap ∧ b < L ∧ l.length + 1 ≤ cap ∧ w.cell? ⟨b, off, none⟩ = some (.int .i64 t) ∧ w.cell? ⟨b, off + 1, none⟩ = some (.string s) := by
    rcases h.row with ⟨ao, cap, -, h⟩ | ⟨b, off, cap, rfl, hb, hp, hlc, hm, hx⟩
    · cases h
    · have := hx 0 hp
      simp at this
      exact ⟨b, off, cap, by simp, hb, by simpa using hlc, this.1, this.2⟩
  rw [← cell_older (by omega) (BV ⟨#[]⟩)] at d0 d1
  have e1 : ¬ ((l.length : Int) + 1 = 0) := by omega
  have e2 : (0 : Int) < (l.length : Int) + 1 := by omega
  have e3 : (((l.length + 1 : Nat) : Int) == 0) = false := by simp; omega
  have e4 : (t != tag) = true := by simpa using ht
  clear h hm ht
  go_enter Tryd.func70, Tryd.ntmps70
  go_wp2
  (try simp only [Exit.inBlock, Exit.then])
  refine bodyPost_ret (v := .tuple #[.agg #[.string ⟨#[]⟩], .bool false]) ?_ rfl ⟨rfl, below_alloc _ _⟩
  rw [results_cell_tmp rfl]
  go_simp
theorem lt_rest {w : World} {L b off cap : Nat} {t : Int} {s : ByteArray} {l : List (Int × ByteArray)} (h : Lt w L (.slice (some ⟨b, off, none⟩) (l.length + 1) cap) ((t, s) :: l)) (v' : Value) (hv : (l = [] ∧ ∃ ao c, v' = .slice ao 0 c) ∨ v' = .slice (some ⟨b, off + 2, none⟩) l.length (cap - 1)) (o1 o2 : Obj) :
    (∃ y, Lt (((w.setCell ⟨L, 0, none⟩ v').alloc o1).alloc o2) L y l) ∧ w.grownBy (((w.setCell ⟨L, 0, none⟩ v').alloc o1).alloc o2) (some L) := by
  have hg : w.grownBy (((w.setCell ⟨L, 0, none⟩ v').alloc o1).alloc o2) (some L) := grown_trans (grown_trans (grown_set1 _ _ _ _) (World.grownBy_alloc _ _ _)) (World.grownBy_alloc _ _ _)
  have hbl : Below L w (((w.setCell ⟨L, 0, none⟩ v').alloc o1).alloc o2) := ⟨hg.os, hg.tape, hg.output, hg.size, fun k hk => hg.block k (by have := h.box.lt; omega) (by simp; omega)⟩
  refine ⟨⟨v', ((h.box.set v').alloc o1).alloc o2, FieldsAt.below ?_ hbl (Nat.le_refl _)⟩, hg⟩
  by_cases hl : l = []
  · subst hl
    rcases hv with ⟨-, ao, c, rfl⟩ | rfl
    · exact .inl ⟨_, _, rfl, rfl⟩
    · exact .inl ⟨_, _, rfl, rfl⟩
  · rcases hv with ⟨h0, -⟩ | rfl
    · exact absurd h0 hl
    · have hp : 0 < l.length := List.length_pos_iff.2 hl
      rcases h.row with ⟨ao, c, -, h0⟩ | ⟨b', off', cap', e, hb, -, hlc, hm, hx⟩
      · cases h0
      · simp only [Value.slice.injEq, Option.some.injEq, Addr.mk.injEq, and_true] at e
        obtain ⟨⟨rfl, rfl⟩, -, rfl⟩ := e
        rw [List.length_cons] at hlc
        refine .inr ⟨b, off + 2, cap - 1, rfl, hb, hp, by omega, by omega, fun i hi => ?_⟩
        have := hx (i + 1) (by rw [List.length_cons]; omega)
        rw [show off + (i + 1) * 2 = off + 2 + i * 2 by omega] at this
        simpa using this
set_option maxRecDepth 100000 in
theorem next_yes (t : Int) (s : ByteArray) (l : List (Int × ByteArray)) (L : Nat) (v : Value) (w : World) (h : Lt w L v ((t, s) :: l)) : Calls Tryd.prog 70 #[.pointer (some ⟨L, 0, none⟩), .int .i64 t] w fun e w' => e = .returned (.tuple #[.agg #[.string s], .bool true]) ∧ (∃ v', Lt w' L v' l) ∧ w.grownBy w' (some L) := by
  have HL : Hid (Lt w L v ((t, s) :: l)) := h
  have hL := h.box.lt
  have hc := (h.box.alloc (BV ⟨#[]⟩)).cell
  have hc2 := ((h.box.alloc (BV ⟨#[]⟩)).alloc (BV s)).cell
  have hf2 := ((h.box.alloc (BV ⟨#[]⟩)).alloc (BV s)).frozen
  obtain ⟨b, off, cap, rfl, hb, hm, d0, d1⟩ : ∃ b off cap, v = .slice (some ⟨b, off, none⟩) (l.length + 1) cap ∧ b < L ∧ l.length + 1 ≤ cap ∧ w.cell? ⟨b, off, none⟩ = some (.int .i64 t) ∧ w.cell? ⟨b, off + 1, none⟩ = some (.string s) := by
    rcases h.row with ⟨ao, cap, -, h⟩ | ⟨b, off, cap, rfl, hb, hp, hlc, hm, hx⟩
    · cases h
    · have := hx 0 hp
      simp at this
      exact ⟨b, off, cap, by simp, hb, by simpa using hlc, this.1, this.2⟩
  rw [← cell_older (by omega) (BV ⟨#[]⟩)] at d0 d1
  have e1 : ¬ ((l.length : Int) + 1 = 0) := by omega
  have e2 : (0 : Int) < (l.length : Int) + 1 := by omega
  have e3 : (((l.length + 1 : Nat) : Int) == 0) = false := by simp; omega
  have e4 : (t != t) = false := by simp
  have e5 : (1 : Int) ≤ (l.length : Int) + 1 := by omega
  have e6 : (l.length : Int) + 1 ≤ (cap : Int) := by omega
  have n1 : ¬ L = w.heap.size := by omega
  have n2 : ¬ L = w.heap.size + 1 := by omega
  have n3 : ¬ w.heap.size = L := by omega
  have n4 : ¬ w.heap.size + 1 = L := by omega
  clear h
  go_enter Tryd.func70, Tryd.ntmps70
  go_wp2
  all_goals
    (try simp only [Exit.inBlock, Exit.then])
    refine bodyPost_ret (v := .tuple #[.agg #[.string s], .bool true]) ?_ rfl ⟨rfl, lt_rest HL.out _ ?_ _ _⟩
    · rw [results_cell_tmp rfl]
      go_simp
    · first
      | exact .inr rfl
      | exact .inl ⟨List.eq_nil_of_length_eq_zero (by omega), _, _, by rw [show l.length = 0 by omega]⟩
end Go.Proofs.YtlmoibicepppmaaDoor
