/-
  answer's num and packHandle, and the closure that adds a field: what they answer, and what becomes of the box.
-/
import Derived.Test.YtapjgkhbanpmjaaRBase
import Derived.Test.YtapjgkhbanpmjaaFields
import Derived.Test.YtapjgkhbanpmjaaPlainP
import Derived.Test.YtapjgkhbanpmjaaAppend
import Derived.RangeFuncBox
import Derived.OneCell
namespace Go.Proofs.Ytapjgkhbanpmjaa
open Go.ChangeShapes Go.WideShapes Go.ChangeAt Go.RowKit Go.Deep
open Ak

theorem infoF : (Try.prog.info? 73).map (fun i => (i.zero, i.size, i.bytes)) = some (some (.agg #[.int .i64 0, .string ⟨#[]⟩]), 2, 24) := by kernel_rfl

theorem num_s (n size : Int) (w : World) (hn : n ≤ 9223372036854775807) : Calls Try.prog 36 #[.int .i64 n, .int .i64 size] w fun e w' => e = .returned (.string (Pl.numOut n size)) ∧ Below w.heap.size w w' := by
  go_enter Try.func36, Try.ntmps36
  go_wp2_with fail
  refine (num_any n size _ hn).mono ?_
  rintro e w1 ⟨rfl, hb⟩
  go_wp2
  go_ret
  exact ⟨rfl, hb⟩
set_option maxRecDepth 100000 in
set_option maxHeartbeats 1000000 in
theorem packHandle_any (no gen : Int) (w : World) (hn : no ≤ 9223372036854775807) (hg : gen ≤ 9223372036854775807) : Calls Try.prog 37 #[VH no gen] w fun e w' => e = .returned (.string (hbytes no gen)) ∧ Below w.heap.size w w' := by
  have z1 := numOut_le no 1
  have z2 := numOut_le gen 6
  obtain ⟨n1, hn1⟩ : ∃ n1, Pl.numOut no 1 = n1 := ⟨_, rfl⟩
  obtain ⟨n2, hn2⟩ : ∃ n2, Pl.numOut gen 6 = n2 := ⟨_, rfl⟩
  have HO : Hid (hbytes no gen = n1 ++ n2) := by show hbytes no gen = _; rw [← hn1, ← hn2]; rfl
  rw [hn1] at z1
  rw [hn2] at z2
  have hq1 : ¬ 9223372036854775807 < n1.size + n2.size := by omega
  obtain ⟨W, hW⟩ : ∃ W, W = w.alloc (BH no gen) := ⟨_, rfl⟩
  have hbk : W.heap[w.heap.size]? = some (BH no gen) := by rw [hW]; exact heap_alloc_new w _
  have HB0 : Hid (Below w.heap.size w W) := by show Below w.heap.size w W; rw [hW]; exact (Below.refl _ _).alloc (Nat.le_refl _) _
  obtain ⟨a0, a1⟩ := two_of hbk
  have c0 := fun p : Grw W => p.cell a0
  have c1 := fun p : Grw W => p.cell a1
  have HC1 : Hid (∀ V, Calls Try.prog 36 #[.int .i64 no, .int .i64 1] V fun e w' => e = .returned (.string n1) ∧ Below V.heap.size V w') := fun V => by rw [← hn1]; exact num_s no 1 V hn
  have HC2 : Hid (∀ V, Calls Try.prog 36 #[.int .i64 gen, .int .i64 6] V fun e w' => e = .returned (.string n2) ∧ Below V.heap.size V w') := fun V => by rw [← hn2]; exact num_s gen 6 V hg
  have hne9 : Nonempty (Grw W) := grw_some W
  clear hn1 hn2 hbk a0 a1 hn hg
  go_enter Try.func37, Try.ntmps37
  go_wp2_with fail
  rw [← hW]
  clear hW
  refine wp_region_grw (by kernel_rfl) (by kernel_rfl) ?_
  repeat (go_big_quiet_step (first
    | (go_at_call_of 36 (Value.int .i64 6); with_reducible refine calls_grw (Grw.grown _) (HC2.out _))
    | (go_at_call 36; with_reducible refine calls_grw (Grw.grown _) (HC1.out _))))
  rintro w9 ⟨p9, rfl⟩
  have HB : Hid (Below w.heap.size w p9.out) := HB0.out.trans (p9.below.mono HB0.out.size)
  go_wp2
  go_ret
  rw [HO.out]
  exact ⟨rfl, HB.out⟩

/-- What holds behind each field: the box b has a slice of the call's own, whose fields are l; the blocks of w0 are as they were. -/
structure St (n0 b : Nat) (l : List (Int × ByteArray)) (w0 : World) (v : Value) (w : World) : Prop where
  box : Boxed w b 45 v
  row : w.ownsRow n0 73 2 v l.length (cellsOf l)
  below : Below n0 w0 w
  base : n0 ≤ b
  start : n0 ≤ w0.heap.size
theorem St.step {n0 b : Nat} {l : List (Int × ByteArray)} {w0 w w' : World} {v : Value} (h : St n0 b l w0 v w) (hb : Below w.heap.size w w') : St n0 b l w0 v w' :=
  ⟨block_step h.box hb, h.row.kept (grown_of_below hb none) (Classical.em _), h.below.trans (hb.mono (Nat.le_trans h.start h.below.size)), h.base, h.start⟩
theorem St.fields {n0 b : Nat} {l : List (Int × ByteArray)} {w0 w : World} {v : Value} (h : St n0 b l w0 v w) : FieldsAt w.heap.size w v l := FieldsAt.of_own h.row

def Others (b : Nat) (w w' : World) : Prop := ∀ B o t, t ≠ 73 → B ≠ b → w.heap[B]? = some (.cells o t (0, 0)) → w'.heap[B]? = some (.cells o t (0, 0))
theorem added {n0 b : Nat} {l : List (Int × ByteArray)} {w0 w w1 : World} {v v1 : Value} {tag : Int} {s : ByteArray} {o : Obj} (h : St n0 b l w0 v w)
    (hown : w1.ownsRow n0 73 2 v1 (l.length + 1) (cellsOf l ++ [.int .i64 tag, .string s])) (hgrow : (w.alloc o).grownBy w1 v.ownBlock) :
    ∃ g cap, v1 = .slice (some ⟨g, 0, none⟩) (l.length + 1) cap ∧ w1.cell? ⟨b, 0, none⟩ = some v ∧ w1.frozen? ⟨b, 0, none⟩ = false ∧ b < w1.heap.size ∧ Hid (St n0 b (l ++ [(tag, s)]) w0 v1 (w1.setCell ⟨b, 0, none⟩ v1) ∧ Others b w (w1.setCell ⟨b, 0, none⟩ v1)) := by
  obtain ⟨g1, cap1, hv1⟩ := ownsRow_succ hown
  have hb1 : Boxed w1 b 45 v := (h.box.alloc _).kept hgrow ((h.box.alloc o).not_row (by decide) (h.row.alloc o))
  refine ⟨g1, cap1, hv1, hb1.cell, hb1.frozen, hb1.lt, ⟨hb1.set _, ?_, ?_, h.base, h.start⟩, ?_⟩
  · refine World.ownsRow.kept (w := w1) ?_ (grownBy_setCell' w1 b _) (.inr (hb1.not_row (by decide) hown).symm)
    rw [cellsOf_append, List.length_append]
    exact hown
  · have h1 := h.below.size
    have h2 := h.start
    exact ((h.below.alloc (Nat.le_trans h2 h1) _).grown hgrow (by simp; omega) (fun g hg => (h.row.lt g hg).1)).setCell (p := ⟨b, 0, none⟩) h.base _
  · intro B o' t ht hB hBo
    have h1 : w1.heap[B]? = some (.cells o' t (0, 0)) := App.keep (h.row.alloc o) hgrow ((Below.heap_alloc w o B (block_lt hBo)).trans hBo) ht
    exact (Below.heap_setCell _ _ _ B (fun e => hB e)).trans h1
set_option maxRecDepth 100000 in
set_option maxHeartbeats 1000000 in
theorem add_any (there : Bool) (tag : Int) (s : ByteArray) (n0 b : Nat) (l : List (Int × ByteArray)) (w0 : World) (v : Value) (w : World) (h : St n0 b l w0 v w) (hl : l.length ≤ 1000) :
    Calls Try.prog 35 #[.bool there, .int .i64 tag, .string s, .pointer (some ⟨b, 0, none⟩)] w fun e w' => e = .returned (.tuple #[]) ∧ ∃ v', St n0 b (l ++ opt there (tag, s)) w0 v' w' ∧ Others b w w' := by
  cases there with
  | false =>
    have HL : Hid (l ++ opt false (tag, s) = l) := by simp [Hid, opt]
    rw [HL.out]
    go_enter Try.func35, Try.ntmps35
    go_wp2
    go_end0
    exact ⟨rfl, v, h, fun _ _ _ _ _ hB => hB⟩
  | true =>
    have HL : Hid (l ++ opt true (tag, s) = l ++ [(tag, s)]) := by simp [Hid, opt]
    rw [HL.out]
    obtain ⟨i0, hi, hz0, hz1, hz2⟩ := info_parts infoF
    have hc := h.box.cell
    have hlt := h.box.lt
    have HH : Hid (St n0 b l w0 v w) := h
    clear h
    go_enter Try.func35, Try.ntmps35
    go_wp2_with (at_builtin; refine wpList_append_own _ rfl (.tmp 8) (.tmp 12) 45 rfl n0 73 i0 (.agg #[.int .i64 0, .string ⟨#[]⟩]) 2 24 Try.underlying45 hi hz0 hz1 hz2 rfl (by decide) _ _ _ rfl (HH.out.row.alloc _) ⟨w.heap.size, 0, none⟩ 1 1 [.int .i64 tag, .string s] rfl rfl (App.two_new _ _ rfl _ _ _) (App.one2 _ _) (by unfold maxLen; omega) (by omega) (by have := HH.out.below.size; have := HH.out.start; simp; omega) ?_; intro v1 w1 hown1 hgrow1 _; obtain ⟨g1, cap1, rfl, q0, q1, q2, HQ⟩ := added HH.out hown1 hgrow1; clear hown1 hgrow1)
    go_end0
    exact ⟨rfl, _, HQ.out⟩
theorem packAttr_any (k l s t : Int) (w : World) (hs : s ≤ 9223372036854775807) (ht : t ≤ 9223372036854775807) (hk : k ≤ 9223372036854775807) (hl : l ≤ 9223372036854775807) : Calls Try.prog 38 #[VA k l s t] w fun e w' => e = .returned (.string (At.packOut k l s t)) ∧ Below w.heap.size w w' := by
  go_enter Try.func38, Try.ntmps38
  go_wp2_with fail
  refine (apack_any k l s t _ hs ht hk hl).mono ?_
  rintro e w1 ⟨rfl, hb⟩
  have HB1 : Hid (Below w.heap.size w w1) := ((Below.refl _ _).alloc (Nat.le_refl _) _).trans (hb.mono (by simp))
  go_wp2
  go_ret
  exact ⟨rfl, HB1.out⟩
set_option maxRecDepth 100000 in
set_option maxHeartbeats 1000000 in
theorem packEntry_any (x : Ent) (w : World) (hc : x.2.1 ≤ 9223372036854775807) (hn : x.2.2.1 ≤ 9223372036854775807) (hg : x.2.2.2 ≤ 9223372036854775807) (hs : x.1.size ≤ 65535) : Calls Try.prog 39 #[VE x] w fun e w' => e = .returned (.string (Re.ebytes x)) ∧ Below w.heap.size w w' := by
  have z1 := numOut_le x.2.1 6
  have z2 := hbytes_le x.2.2.1 x.2.2.2
  obtain ⟨n1, hn1⟩ : ∃ n1, Pl.numOut x.2.1 6 = n1 := ⟨_, rfl⟩
  obtain ⟨n2, hn2⟩ : ∃ n2, hbytes x.2.2.1 x.2.2.2 = n2 := ⟨_, rfl⟩
  have HO : Hid (Re.ebytes x = n1 ++ n2 ++ x.1) := by show Re.ebytes x = _; rw [← hn1, ← hn2]; rfl
  rw [hn1] at z1
  rw [hn2] at z2
  have hq1 : ¬ 9223372036854775807 < n1.size + n2.size := by omega
  have hq2 : ¬ 9223372036854775807 < n1.size + n2.size + x.1.size := by omega
  obtain ⟨W, hW⟩ : ∃ W, W = w.alloc (BE x) := ⟨_, rfl⟩
  have hbk : W.heap[w.heap.size]? = some (BE x) := by rw [hW]; exact heap_alloc_new w _
  have HB0 : Hid (Below w.heap.size w W) := by show Below w.heap.size w W; rw [hW]; exact (Below.refl _ _).alloc (Nat.le_refl _) _
  obtain ⟨a0, a1, a2, a3⟩ := ent_of hbk
  have c0 := fun p : Grw W => p.cell a0
  have c1 := fun p : Grw W => p.cell a1
  have c2 := fun p : Grw W => p.cell a2
  have c3 := fun p : Grw W => p.cell a3
  have HC1 : Hid (∀ V, Calls Try.prog 36 #[.int .i64 x.2.1, .int .i64 6] V fun e w' => e = .returned (.string n1) ∧ Below V.heap.size V w') := fun V => by rw [← hn1]; exact num_s x.2.1 6 V hc
  have HC2 : Hid (∀ V, Calls Try.prog 37 #[VH x.2.2.1 x.2.2.2] V fun e w' => e = .returned (.string n2) ∧ Below V.heap.size V w') := fun V => by rw [← hn2]; exact packHandle_any _ _ V hn hg
  have hne9 : Nonempty (Grw W) := grw_some W
  clear hn1 hn2 hbk a0 a1 a2 a3 hn hg hc
  go_enter Try.func39, Try.ntmps39
  go_wp2_with fail
  rw [← hW]
  clear hW
  refine wp_region_grw (by kernel_rfl) (by kernel_rfl) ?_
  repeat (go_big_quiet_step (first
    | (go_at_call 36; with_reducible refine calls_grw (Grw.grown _) (HC1.out _))
    | (go_at_call 37; with_reducible refine calls_grw (Grw.grown _) (HC2.out _))))
  rintro w9 ⟨p9, rfl⟩
  have HB : Hid (Below w.heap.size w p9.out) := HB0.out.trans (p9.below.mono HB0.out.size)
  go_wp2
  go_ret
  rw [HO.out]
  exact ⟨rfl, HB.out⟩
end Go.Proofs.Ytapjgkhbanpmjaa
