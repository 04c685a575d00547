/-
  post: add, Send and Again: a letter waits under the next number.
-/
import Derived.Test.YtlhobncpifklkaaPSee
import Derived.Deep.RegionLaw
import Derived.Deep.AppendLies
namespace Go.Proofs.Ytlhobncpifklkaa
open Go.RowKit

theorem info35 : (Try.prog.info? 88).map (fun i => (i.zero, i.size, i.bytes)) = some (some (.agg #[.int .i64 0, .int .i64 0, .int .i64 0, .string ⟨#[]⟩]), 4, 40) := by kernel_rfl

theorem four_new (W : World) (g : Nat) (hg : g = W.heap.size) (a b c d : Value) (T : TypeId) : ∀ j u, [a, b, c, d][j]? = some u → (W.alloc (.cells #[a, b, c, d] T)).cell? ((⟨g, 0, none⟩ : Addr).add j) = some u := by
  subst hg
  intro j u hj
  rw [Go.WideShapes.add_plain]
  match j, hj with
  | 0, hj => simp at hj; subst hj; simp
  | 1, hj => simp at hj; subst hj; simp
  | 2, hj => simp at hj; subst hj; simp
  | 3, hj => simp at hj; subst hj; simp

theorem add_after {W w1 : World} {s b : Nat} {c0 c1 v x0 x1 x2 x3 : Value} {row : Option Nat} (h1 : W.heap[s]? = some (.cells #[c0, c1, v] 84 (0, 0))) (h2 : W.heap[b]? = some (.cells #[x0, x1, x2, x3] 88 (0, 0))) (hg : W.drew.grownBy w1 row) (hs : some s ≠ row) (hb : some b ≠ row) :
    w1.heap[s]? = some (.cells #[c0, c1, v] 84 (0, 0)) ∧ w1.cell? ⟨s, 2, none⟩ = some v ∧ w1.frozen? ⟨s, 2, none⟩ = false ∧ w1.cell? ⟨b, 0, none⟩ = some x0 := by
  have e1 := (hg.block s (Array.getElem?_eq_some_iff.1 h1).1 hs).trans h1
  have e2 := (hg.block b (Array.getElem?_eq_some_iff.1 h2).1 hb).trans h2
  refine ⟨e1, ?_, ?_, ?_⟩ <;> simp [World.cell?, World.frozen?, e1, e2]

theorem owns_set {W : World} {base s : Nat} {e : TypeId} {size : Nat} {v : Value} {n : Nat} {xs : List Value} (h : W.ownsRow (s + 1) e size v n xs) (o : Nat) (u : Value) (hb : base = s + 1) : (W.setCell ⟨s, o, none⟩ u).ownsRow base e size v n xs := by
  subst hb
  exact ownsRow_setCell_below h (by show s < s + 1; omega) u
theorem add_end {w W w1 : World} {s gg cap n : Nat} {nodes last : Int} {v : Value} {ls : List Po.Lt} {x1 x2 : Int} {x3 : ByteArray} {cs : List Value} (hT : Turns w W s v) (hg : W.drew.grownBy w1 v.ownBlock)
    (hbs : w1.heap[s]? = some (.cells #[.int .i64 nodes, .int .i64 (last + 1), v] 84 (0, 0))) (hown : w1.ownsRow (s + 1) 88 4 (.slice (some ⟨gg, 0, none⟩) (n + 1) cap) (n + 1) cs)
    (hat : v.ownBlock = some gg ∨ w.heap.size ≤ gg) (hG : Po.Good (last + 1) (ls ++ [(last + 1, x1, x2, x3)])) (hn : n = ls.length := by rfl) (hcs : cs = Po.cells ls ++ [.int .i64 (last + 1), .int .i64 x1, .int .i64 x2, .string x3] := by rfl) :
    PostAt (w1.setCell ⟨s, 2, none⟩ (.slice (some ⟨gg, 0, none⟩) (n + 1) cap)) s nodes (last + 1) (.slice (some ⟨gg, 0, none⟩) (n + 1) cap) (ls ++ [(last + 1, x1, x2, x3)]) ∧
      Turns w (w1.setCell ⟨s, 2, none⟩ (.slice (some ⟨gg, 0, none⟩) (n + 1) cap)) s v ∧ Moves w v (.slice (some ⟨gg, 0, none⟩) (n + 1) cap) := by
  subst hn hcs
  refine ⟨⟨?_, ?_, hG⟩, ⟨hg.os.trans hT.os, hg.tape.trans hT.tape, hg.output.trans hT.output, ?_, fun k hk hks hkv => ?_⟩, ?_⟩
  · simp [World.setCell, Array.getElem?_modify, hbs]
  · rw [Po.cells_append, Po.cells_one]
    have := owns_set hown 2 (.slice (some ⟨gg, 0, none⟩) (ls.length + 1) cap) rfl
    simpa using this
  · rw [show (w1.setCell ⟨s, 2, none⟩ (.slice (some ⟨gg, 0, none⟩) (ls.length + 1) cap)).heap.size = w1.heap.size by simp [World.setCell]]
    exact Nat.le_trans hT.size hg.size
  · rw [Below.heap_setCell _ _ _ _ hks]
    exact (hg.block k (Nat.lt_of_lt_of_le hk hT.size) hkv).trans (hT.block k hk hks hkv)
  · rcases hat with hat | hat
    · exact .inl hat.symm
    · exact .inr fun j hj => by simp [Value.ownBlock] at hj; omega

set_option maxHeartbeats 1000000 in
set_option maxRecDepth 100000 in
theorem add_full {s : Nat} {nodes last : Int} {v : Value} {ls : List Po.Lt} (x : Po.Lt) (w : World) (h : PostAt w s nodes last v ls) (hl : 2048 ≤ ls.length) : Calls Try.prog 49 #[.pointer (some ⟨s, 0, none⟩), letter x] w fun e w' => e = .returned (.tuple #[.int .i64 0, .int .i64 5]) ∧ w.grownBy w' none := by
  obtain ⟨_, _, c2⟩ := h.cells
  have hs := h.lt
  obtain ⟨m, hm⟩ : ∃ m, ls.length = m := ⟨_, rfl⟩
  have hmI : (2048 : Int) ≤ (m : Int) := by omega
  obtain ⟨x0, x1, x2, x3⟩ := x
  rcases h.row.2 with ⟨_, h0⟩ | ⟨g, cap, cur, rfl, _⟩
  · omega
  rw [hm] at c2
  unfold letter
  simp only
  clear h hm hl
  go_enter Try.func49, Try.ntmps49
  go_wp2
  go_ret2
  exact ⟨rfl, World.grownBy_alloc _ _ _⟩

set_option maxHeartbeats 1000000 in
set_option maxRecDepth 100000 in
theorem add_ok {s : Nat} {nodes last : Int} {v : Value} {ls : List Po.Lt} (x : Po.Lt) (w : World) (h : PostAt w s nodes last v ls) (hl : ls.length < 2048) (hlast : last < 4611686018427387904) (hb : x.2.2.2.size ≤ 65535) :
    Calls Try.prog 49 #[.pointer (some ⟨s, 0, none⟩), letter x] w fun e w' => ∃ v', e = .returned (.tuple #[.int .i64 (last + 1), .int .i64 0]) ∧ PostAt w' s nodes (last + 1) v' (ls ++ [(last + 1, x.2.1, x.2.2.1, x.2.2.2)]) ∧ Turns w w' s v ∧ Moves w v v' := by
  obtain ⟨i0, hi, hz0, hz1, hz2⟩ := info_parts info35
  obtain ⟨c0, c1, c2⟩ := h.cells
  have f1 := h.free 1
  have f2 := h.free 2
  have hs := h.lt
  have hz := h.good.zero
  obtain ⟨x0, x1, x2, x3⟩ := x
  simp only at hb ⊢
  have HP : Hid (PostAt w s nodes last v ls) := h
  have HG : Hid (Po.Good (last + 1) (ls ++ [(last + 1, x1, x2, x3)])) := h.good.add x1 x2 hb hl
  have hlen : ∃ p cp, v = .slice p ls.length cp := by
    rcases h.row.2 with ⟨rfl, h0⟩ | ⟨g, cap, cur, rfl, _⟩
    · exact ⟨_, _, by rw [h0]⟩
    · exact ⟨_, _, rfl⟩
  obtain ⟨p, cp, rfl⟩ := hlen
  have hlI : ¬ ((2048 : Int) ≤ (ls.length : Int)) := by omega
  unfold letter
  simp only
  clear h
  go_enter Try.func49, Try.ntmps49
  go_wp2_with fail
  have hblk : (w.setCell ⟨s, 1, none⟩ (.int .i64 (last + 1))).heap[s]? = some (.cells #[.int .i64 nodes, .int .i64 (last + 1), .slice p ls.length cp] 84 (0, 0)) := by
    simp [World.setCell, Array.getElem?_modify, HP.out.block]
  have hg1 : w.grownBy (w.setCell ⟨s, 1, none⟩ (.int .i64 (last + 1))) (some s) := ⟨rfl, rfl, rfl, by simp [World.setCell], fun k _ hne => Below.heap_setCell _ _ _ _ (fun e => hne (by rw [e]))⟩
  have hg2 := World.grownBy_alloc (w.setCell ⟨s, 1, none⟩ (.int .i64 (last + 1))) (.cells #[.int .i64 (last + 1), .int .i64 x1, .int .i64 x2, .string x3] 88) none
  have hrow1 := HP.out.row.kept hg1 (by
    rcases hv : (Value.slice p ls.length cp).ownBlock with _ | j
    · exact .inl rfl
    · have := (HP.out.row.lt j hv).1
      exact .inr (by simp; omega))
  have hbox := heap_alloc_new (w.setCell ⟨s, 1, none⟩ (.int .i64 (last + 1))) (.cells #[.int .i64 (last + 1), .int .i64 x1, .int .i64 x2, .string x3] 88)
  rw [show (w.setCell ⟨s, 1, none⟩ (.int .i64 (last + 1))).heap.size = w.heap.size by simp [World.setCell]] at hbox
  have hblk2 := (hg2.block s (by rw [show (w.setCell ⟨s, 1, none⟩ (.int .i64 (last + 1))).heap.size = w.heap.size by simp [World.setCell]]; exact hs) (by simp)).trans hblk
  have hrow2 := hrow1.alloc (.cells #[.int .i64 (last + 1), .int .i64 x1, .int .i64 x2, .string x3] 88)
  have hT : Turns w ((w.setCell ⟨s, 1, none⟩ (.int .i64 (last + 1))).alloc (.cells #[.int .i64 (last + 1), .int .i64 x1, .int .i64 x2, .string x3] 88)) s (.slice p ls.length cp) :=
    ⟨rfl, rfl, rfl, by simp [World.setCell], fun k hk hks _ => (hg2.block k (by rw [show (w.setCell ⟨s, 1, none⟩ (.int .i64 (last + 1))).heap.size = w.heap.size by simp [World.setCell]]; exact hk) (by simp)).trans (hg1.block k hk (by simpa using hks))⟩
  have hsz : ((w.setCell ⟨s, 1, none⟩ (.int .i64 (last + 1))).alloc (.cells #[.int .i64 (last + 1), .int .i64 x1, .int .i64 x2, .string x3] 88)).heap.size = w.heap.size + 1 := by simp [World.setCell]
  clear hg1 hg2 hrow1 hblk c0 c1 c2 f1 f2
  generalize ((w.setCell ⟨s, 1, none⟩ (.int .i64 (last + 1))).alloc (.cells #[.int .i64 (last + 1), .int .i64 x1, .int .i64 x2, .string x3] 88)) = W at *
  have c2 : W.cell? ⟨s, 2, none⟩ = some (.slice p ls.length cp) := by simp [World.cell?, hblk2]
  have f2 : W.frozen? ⟨s, 2, none⟩ = false := by simp [World.frozen?, hblk2]
  obtain ⟨⟨b0, b1, b2, b3⟩, bf⟩ := four_of hbox
  have HB2 : Hid (W.heap[s]? = some (.cells #[.int .i64 nodes, .int .i64 (last + 1), .slice p ls.length cp] 84 (0, 0))) := hblk2
  have HBX : Hid (W.heap[w.heap.size]? = some (.cells #[.int .i64 (last + 1), .int .i64 x1, .int .i64 x2, .string x3] 88 (0, 0))) := hbox
  have HT : Hid (Turns w W s (.slice p ls.length cp)) := hT
  have hsW : s + 1 ≤ W.heap.size := by omega
  have hnes : some s ≠ (Value.slice p ls.length cp).ownBlock := fun e => by have := (HP.out.row.lt s e.symm).1; omega
  have hneb : some w.heap.size ≠ (Value.slice p ls.length cp).ownBlock := fun e => by have := (HP.out.row.lt _ e.symm).2; omega
  clear hblk2 hbox hT bf
  go_region_law (refine step_append_lies _ rfl (.tmp 28) (.tmp 30) 82 rfl (s + 1) 88 i0 (.agg #[.int .i64 0, .int .i64 0, .int .i64 0, .string ⟨#[]⟩]) 4 40 Try.underlying82 hi hz0 hz1 hz2 rfl (by decide) _ ls.length _ (by simp [Act.eval]) ((hrow2.drew).alloc _) ⟨W.heap.size, 0, none⟩ 1 1 [.int .i64 (last + 1), .int .i64 x1, .int .i64 x2, .string x3] (by simp [Act.eval]) rfl (four_new _ _ rfl _ _ _ _ _) (Po.cells_one' [(last + 1, x1, x2, x3)]) (by decide) (by unfold maxLen; omega) (by omega) (by simp; omega) (W.heap.size + 1) (by simp) ?_; intro gg cap w1 hown1 hgrow hat hlt1; obtain ⟨hbs, cs2, fs2, cb0⟩ := add_after HB2.out HBX.out (grown_trans (row := (Value.slice p ls.length cp).ownBlock) (World.grownBy_alloc W.drew _ _) hgrow) hnes hneb)
  all_goals
    have HE := add_end HT.out (grown_trans (row := (Value.slice p ls.length cp).ownBlock) (World.grownBy_alloc W.drew _ _) hgrow) hbs hown1 (by rcases hat with hat | hat; exact .inl hat; exact .inr (by omega)) HG.out
    have HE2 : Hid (PostAt (w1.setCell ⟨s, 2, none⟩ (.slice (some ⟨gg, 0, none⟩) (ls.length + 1) cap)) s nodes (last + 1) (.slice (some ⟨gg, 0, none⟩) (ls.length + 1) cap) (ls ++ [(last + 1, x1, x2, x3)]) ∧ Turns w (w1.setCell ⟨s, 2, none⟩ (.slice (some ⟨gg, 0, none⟩) (ls.length + 1) cap)) s (.slice p ls.length cp) ∧ Moves w (.slice p ls.length cp) (.slice (some ⟨gg, 0, none⟩) (ls.length + 1) cap)) := HE
    clear HE hown1 hgrow hrow2 hbs hat
    have hne0 : ¬ (w.heap.size = s) := by omega
    go_wp2
    go_ret2
    exact ⟨_, rfl, HE2.out⟩

namespace Po
def addErr (ls : List Lt) : Int := if 2048 ≤ ls.length then 5 else 0
def sendErr (nodes : Int) (ls : List Lt) (f t : Int) (b : ByteArray) : Int := if isNode nodes f ∧ isNode nodes t then (if 65535 < b.size then 2 else addErr ls) else 1
def sendNum (nodes last : Int) (ls : List Lt) (f t : Int) (b : ByteArray) : Int := if sendErr nodes ls f t b = 0 then last + 1 else 0
def sendLast (nodes last : Int) (ls : List Lt) (f t : Int) (b : ByteArray) : Int := if sendErr nodes ls f t b = 0 then last + 1 else last
def sendTo (nodes last : Int) (ls : List Lt) (f t : Int) (b : ByteArray) : List Lt := if sendErr nodes ls f t b = 0 then ls ++ [(last + 1, f, t, b)] else ls
def againErr (ls : List Lt) (n : Int) : Int := if (get ls n).isSome then addErr ls else 6
def againNum (last : Int) (ls : List Lt) (n : Int) : Int := if againErr ls n = 0 then last + 1 else 0
def againLast (last : Int) (ls : List Lt) (n : Int) : Int := if againErr ls n = 0 then last + 1 else last
def againTo (last : Int) (ls : List Lt) (n : Int) : List Lt := if againErr ls n = 0 then ls ++ [(last + 1, ((get ls n).getD d0).2)] else ls
end Po

theorem send_nil (f t : Int) (b : ByteArray) (w : World) : Calls Try.prog 32 #[.pointer none, .int .i64 f, .int .i64 t, .string b] w fun e w' => e = .returned (.tuple #[.int .i64 0, .int .i64 1]) ∧ w' = w := by
  go_enter Try.func32, Try.ntmps32
  go_wp2_with fail
  refine (has_nil _ _).mono ?_
  rintro e w1 ⟨rfl, rfl⟩
  go_wp2
  go_ret2
  exact ⟨rfl, rfl⟩

theorem send_from {s : Nat} {nodes last : Int} {v : Value} {ls : List Po.Lt} (f t : Int) (b : ByteArray) (w : World) (h : PostAt w s nodes last v ls) (h1 : ¬ isNode nodes f) : Calls Try.prog 32 #[.pointer (some ⟨s, 0, none⟩), .int .i64 f, .int .i64 t, .string b] w fun e w' => e = .returned (.tuple #[.int .i64 0, .int .i64 1]) ∧ w' = w := by
  have HP : Hid (PostAt w s nodes last v ls) := h
  have E1 : Hid (decide (isNode nodes f) = false) := by
    have : decide (isNode nodes f) = false := by simp only [decide_eq_false_iff_not]; exact h1
    exact this
  clear h h1
  go_enter Try.func32, Try.ntmps32
  go_wp2_with fail
  refine (has_any _ _ HP.out).mono ?_
  rintro e w1 ⟨rfl, rfl⟩
  rw [E1.out]
  go_wp2
  go_ret2
  exact ⟨rfl, rfl⟩
theorem send_to {s : Nat} {nodes last : Int} {v : Value} {ls : List Po.Lt} (f t : Int) (b : ByteArray) (w : World) (h : PostAt w s nodes last v ls) (h1 : isNode nodes f) (h2 : ¬ isNode nodes t) : Calls Try.prog 32 #[.pointer (some ⟨s, 0, none⟩), .int .i64 f, .int .i64 t, .string b] w fun e w' => e = .returned (.tuple #[.int .i64 0, .int .i64 1]) ∧ w' = w := by
  have HP : Hid (PostAt w s nodes last v ls) := h
  have E1 : Hid (decide (isNode nodes f) = true) := by
    have : decide (isNode nodes f) = true := by simp only [decide_eq_true_eq]; exact h1
    exact this
  have E2 : Hid (decide (isNode nodes t) = false) := by
    have : decide (isNode nodes t) = false := by simp only [decide_eq_false_iff_not]; exact h2
    exact this
  clear h h1 h2
  go_enter Try.func32, Try.ntmps32
  go_wp2_with fail
  refine (has_any _ _ HP.out).mono ?_
  rintro e w1 ⟨rfl, rfl⟩
  rw [E1.out]
  go_wp2_with fail
  refine (has_any _ _ HP.out).mono ?_
  rintro e w1 ⟨rfl, rfl⟩
  rw [E2.out]
  go_wp2
  go_ret2
  exact ⟨rfl, rfl⟩
theorem send_long {s : Nat} {nodes last : Int} {v : Value} {ls : List Po.Lt} (f t : Int) (b : ByteArray) (w : World) (h : PostAt w s nodes last v ls) (h1 : isNode nodes f) (h2 : isNode nodes t) (h3 : 65535 < b.size) : Calls Try.prog 32 #[.pointer (some ⟨s, 0, none⟩), .int .i64 f, .int .i64 t, .string b] w fun e w' => e = .returned (.tuple #[.int .i64 0, .int .i64 2]) ∧ w' = w := by
  have HP : Hid (PostAt w s nodes last v ls) := h
  have E1 : Hid (decide (isNode nodes f) = true) := by
    have : decide (isNode nodes f) = true := by simp only [decide_eq_true_eq]; exact h1
    exact this
  have E2 : Hid (decide (isNode nodes t) = true) := by
    have : decide (isNode nodes t) = true := by simp only [decide_eq_true_eq]; exact h2
    exact this
  have h3' : (65535 : Int) < (b.size : Int) := by omega
  clear h h1 h2
  go_enter Try.func32, Try.ntmps32
  go_wp2_with fail
  refine (has_any _ _ HP.out).mono ?_
  rintro e w1 ⟨rfl, rfl⟩
  rw [E1.out]
  go_wp2_with fail
  refine (has_any _ _ HP.out).mono ?_
  rintro e w1 ⟨rfl, rfl⟩
  rw [E2.out]
  go_wp2
  go_ret2
  exact ⟨rfl, rfl⟩
theorem send_full {s : Nat} {nodes last : Int} {v : Value} {ls : List Po.Lt} (f t : Int) (b : ByteArray) (w : World) (h : PostAt w s nodes last v ls) (h1 : isNode nodes f) (h2 : isNode nodes t) (h3 : ¬ 65535 < b.size) (h4 : 2048 ≤ ls.length) : Calls Try.prog 32 #[.pointer (some ⟨s, 0, none⟩), .int .i64 f, .int .i64 t, .string b] w fun e w' => e = .returned (.tuple #[.int .i64 0, .int .i64 5]) ∧ w.grownBy w' none := by
  have HP : Hid (PostAt w s nodes last v ls) := h
  have H4 : Hid (2048 ≤ ls.length) := h4
  have E1 : Hid (decide (isNode nodes f) = true) := by
    have : decide (isNode nodes f) = true := by simp only [decide_eq_true_eq]; exact h1
    exact this
  have E2 : Hid (decide (isNode nodes t) = true) := by
    have : decide (isNode nodes t) = true := by simp only [decide_eq_true_eq]; exact h2
    exact this
  have h3' : ¬ (65535 : Int) < (b.size : Int) := by omega
  clear h h1 h2 h3 h4
  go_enter Try.func32, Try.ntmps32
  go_wp2_with fail
  refine (has_any _ _ HP.out).mono ?_
  rintro e w1 ⟨rfl, rfl⟩
  rw [E1.out]
  go_wp2_with fail
  refine (has_any _ _ HP.out).mono ?_
  rintro e w1 ⟨rfl, rfl⟩
  rw [E2.out]
  go_wp2_with fail
  refine (add_full (0, f, t, b) _ HP.out H4.out).mono ?_
  rintro e w2 ⟨rfl, hg⟩
  have HG : Hid (w1.grownBy w2 none) := hg
  clear hg
  go_wp2
  go_ret2
  exact ⟨rfl, HG.out⟩
theorem send_ok {s : Nat} {nodes last : Int} {v : Value} {ls : List Po.Lt} (f t : Int) (b : ByteArray) (w : World) (h : PostAt w s nodes last v ls) (hlast : last < 4611686018427387904) (h1 : isNode nodes f) (h2 : isNode nodes t) (h3 : ¬ 65535 < b.size) (h4 : ls.length < 2048) : Calls Try.prog 32 #[.pointer (some ⟨s, 0, none⟩), .int .i64 f, .int .i64 t, .string b] w fun e w' => ∃ v', e = .returned (.tuple #[.int .i64 (last + 1), .int .i64 0]) ∧ PostAt w' s nodes (last + 1) v' (ls ++ [(last + 1, f, t, b)]) ∧ Turns w w' s v ∧ Moves w v v' := by
  have HP : Hid (PostAt w s nodes last v ls) := h
  have H4 : Hid (ls.length < 2048 ∧ last < 4611686018427387904 ∧ b.size ≤ 65535) := ⟨h4, hlast, by omega⟩
  have E1 : Hid (decide (isNode nodes f) = true) := by
    have : decide (isNode nodes f) = true := by simp only [decide_eq_true_eq]; exact h1
    exact this
  have E2 : Hid (decide (isNode nodes t) = true) := by
    have : decide (isNode nodes t) = true := by simp only [decide_eq_true_eq]; exact h2
    exact this
  have h3' : ¬ (65535 : Int) < (b.size : Int) := by omega
  clear h h1 h2 h3 h4 hlast
  go_enter Try.func32, Try.ntmps32
  go_wp2_with fail
  refine (has_any _ _ HP.out).mono ?_
  rintro e w1 ⟨rfl, rfl⟩
  rw [E1.out]
  go_wp2_with fail
  refine (has_any _ _ HP.out).mono ?_
  rintro e w1 ⟨rfl, rfl⟩
  rw [E2.out]
  go_wp2_with fail
  refine (add_ok (0, f, t, b) _ HP.out H4.out.1 H4.out.2.1 H4.out.2.2).mono ?_
  rintro e w2 ⟨v', rfl, hp, ht, hm⟩
  have HR : Hid (PostAt w2 s nodes (last + 1) v' (ls ++ [(last + 1, f, t, b)]) ∧ Turns w1 w2 s v ∧ Moves w1 v v') := ⟨hp, ht, hm⟩
  clear hp ht hm
  go_wp2
  go_ret2
  exact ⟨_, rfl, HR.out⟩
/-- Send, at any post. -/
theorem send_any {s : Nat} {nodes last : Int} {v : Value} {ls : List Po.Lt} (f t : Int) (b : ByteArray) (w : World) (h : PostAt w s nodes last v ls) (hlast : last < 4611686018427387904) :
    Calls Try.prog 32 #[.pointer (some ⟨s, 0, none⟩), .int .i64 f, .int .i64 t, .string b] w fun e w' => ∃ v', e = .returned (.tuple #[.int .i64 (Po.sendNum nodes last ls f t b), .int .i64 (Po.sendErr nodes ls f t b)]) ∧ PostAt w' s nodes (Po.sendLast nodes last ls f t b) v' (Po.sendTo nodes last ls f t b) ∧ Turns w w' s v ∧ Moves w v v' := by
  unfold Po.sendNum Po.sendLast Po.sendTo
  by_cases h1 : isNode nodes f
  · by_cases h2 : isNode nodes t
    · by_cases h3 : 65535 < b.size
      · have e : Po.sendErr nodes ls f t b = 2 := by unfold Po.sendErr; rw [if_pos ⟨h1, h2⟩, if_pos h3]
        rw [e]
        exact (send_long f t b w h h1 h2 h3).mono fun _ _ ⟨he, hw⟩ => ⟨v, he, by subst hw; exact h, by subst hw; exact .refl _ _ _, .refl _ _⟩
      · by_cases h4 : 2048 ≤ ls.length
        · have e : Po.sendErr nodes ls f t b = 5 := by unfold Po.sendErr Po.addErr; rw [if_pos ⟨h1, h2⟩, if_neg h3, if_pos h4]
          rw [e]
          exact (send_full f t b w h h1 h2 h3 h4).mono fun _ _ ⟨he, hg⟩ => ⟨v, he, h.still hg, .of_grown hg, .refl _ _⟩
        · have e : Po.sendErr nodes ls f t b = 0 := by unfold Po.sendErr Po.addErr; rw [if_pos ⟨h1, h2⟩, if_neg h3, if_neg h4]
          rw [e]
          exact send_ok f t b w h hlast h1 h2 h3 (by omega)
    · have e : Po.sendErr nodes ls f t b = 1 := by unfold Po.sendErr; rw [if_neg (fun hh => h2 hh.2)]
      rw [e]
      exact (send_to f t b w h h1 h2).mono fun _ _ ⟨he, hw⟩ => ⟨v, he, by subst hw; exact h, by subst hw; exact .refl _ _ _, .refl _ _⟩
  · have e : Po.sendErr nodes ls f t b = 1 := by unfold Po.sendErr; rw [if_neg (fun hh => h1 hh.1)]
    rw [e]
    exact (send_from f t b w h h1).mono fun _ _ ⟨he, hw⟩ => ⟨v, he, by subst hw; exact h, by subst hw; exact .refl _ _ _, .refl _ _⟩

theorem again_nil (n : Int) (w : World) : Calls Try.prog 33 #[.pointer none, .int .i64 n] w fun e w' => e = .returned (.tuple #[.int .i64 0, .int .i64 6]) ∧ w.grownBy w' none := by
  go_enter Try.func33, Try.ntmps33
  go_wp2_with fail
  refine (see_nil n _).mono ?_
  rintro e w1 ⟨rfl, hg⟩
  have HG : Hid (w.grownBy w1 none) := hg
  clear hg
  unfold letter
  go_wp2
  go_ret2
  exact ⟨rfl, grown_trans HG.out (World.grownBy_alloc _ _ _)⟩
set_option maxHeartbeats 1000000 in
theorem again_none {s : Nat} {nodes last : Int} {v : Value} {ls : List Po.Lt} (n : Int) (w : World) (h : PostAt w s nodes last v ls) (hn : Po.get ls n = none) : Calls Try.prog 33 #[.pointer (some ⟨s, 0, none⟩), .int .i64 n] w fun e w' => e = .returned (.tuple #[.int .i64 0, .int .i64 6]) ∧ w.grownBy w' none := by
  have HP : Hid (PostAt w s nodes last v ls ∧ Po.get ls n = none) := ⟨h, hn⟩
  clear h hn
  go_enter Try.func33, Try.ntmps33
  go_wp2_with fail
  refine (see_none n _ HP.out.1 HP.out.2).mono ?_
  rintro e w1 ⟨rfl, hg⟩
  have HG : Hid (w.grownBy w1 none) := hg
  clear hg
  unfold letter
  go_wp2
  go_ret2
  exact ⟨rfl, grown_trans HG.out (World.grownBy_alloc _ _ _)⟩
set_option maxHeartbeats 1000000 in
theorem again_full {s : Nat} {nodes last : Int} {v : Value} {ls : List Po.Lt} {x : Po.Lt} (n : Int) (w : World) (h : PostAt w s nodes last v ls) (hn : Po.get ls n = some x) (hl : 2048 ≤ ls.length) : Calls Try.prog 33 #[.pointer (some ⟨s, 0, none⟩), .int .i64 n] w fun e w' => e = .returned (.tuple #[.int .i64 0, .int .i64 5]) ∧ w.grownBy w' none := by
  have HP : Hid (PostAt w s nodes last v ls ∧ Po.get ls n = some x ∧ 2048 ≤ ls.length) := ⟨h, hn, hl⟩
  clear h hn hl
  obtain ⟨x0, x1, x2, x3⟩ := x
  go_enter Try.func33, Try.ntmps33
  go_wp2_with fail
  refine (see_some n _ HP.out.1 HP.out.2.1).mono ?_
  rintro e w1 ⟨rfl, hg⟩
  have HG : Hid (w.grownBy w1 none) := hg
  clear hg
  unfold letter
  go_wp2_with fail
  have hga := grown_trans HG.out (World.grownBy_alloc w1 (.cells #[.int .i64 x0, .int .i64 x1, .int .i64 x2, .string x3] 88) none)
  refine (add_full (x0, x1, x2, x3) _ (HP.out.1.still hga) HP.out.2.2).mono ?_
  rintro e w2 ⟨rfl, hg2⟩
  have HG2 : Hid (w.grownBy w2 none) := grown_trans hga hg2
  clear hg2 hga
  go_wp2
  go_ret2
  exact ⟨rfl, HG2.out⟩
set_option maxHeartbeats 1000000 in
theorem again_ok {s : Nat} {nodes last : Int} {v : Value} {ls : List Po.Lt} {x : Po.Lt} (n : Int) (w : World) (h : PostAt w s nodes last v ls) (hlast : last < 4611686018427387904) (hn : Po.get ls n = some x) (hl : ls.length < 2048) :
    Calls Try.prog 33 #[.pointer (some ⟨s, 0, none⟩), .int .i64 n] w fun e w' => ∃ v', e = .returned (.tuple #[.int .i64 (last + 1), .int .i64 0]) ∧ PostAt w' s nodes (last + 1) v' (ls ++ [(last + 1, x.2)]) ∧ Turns w w' s v ∧ Moves w v v' := by
  have HP : Hid (PostAt w s nodes last v ls ∧ Po.get ls n = some x ∧ ls.length < 2048 ∧ last < 4611686018427387904 ∧ x.2.2.2.size ≤ 65535) := ⟨h, hn, hl, hlast, h.good.short x (Po.get_mem hn).1⟩
  clear h hn hl hlast
  obtain ⟨x0, x1, x2, x3⟩ := x
  simp only at HP ⊢
  go_enter Try.func33, Try.ntmps33
  go_wp2_with fail
  refine (see_some n _ HP.out.1 HP.out.2.1).mono ?_
  rintro e w1 ⟨rfl, hg⟩
  have HG : Hid (w.grownBy w1 none) := hg
  clear hg
  unfold letter
  go_wp2_with fail
  have hga := grown_trans HG.out (World.grownBy_alloc w1 (.cells #[.int .i64 x0, .int .i64 x1, .int .i64 x2, .string x3] 88) none)
  refine (add_ok (x0, x1, x2, x3) _ (HP.out.1.still hga) HP.out.2.2.1 HP.out.2.2.2.1 HP.out.2.2.2.2).mono ?_
  rintro e w2 ⟨v', rfl, hp, ht, hm⟩
  have HR : Hid (PostAt w2 s nodes (last + 1) v' (ls ++ [(last + 1, x1, x2, x3)]) ∧ Turns w w2 s v ∧ Moves w v v') := ⟨hp, (Turns.of_grown hga).trans (.refl _ _) ht, Moves.trans (.refl _ _) hga.size hm⟩
  clear hp ht hm hga
  go_wp2
  go_ret2
  exact ⟨_, rfl, HR.out⟩
/-- Again, at any post. -/
theorem again_any {s : Nat} {nodes last : Int} {v : Value} {ls : List Po.Lt} (n : Int) (w : World) (h : PostAt w s nodes last v ls) (hlast : last < 4611686018427387904) :
    Calls Try.prog 33 #[.pointer (some ⟨s, 0, none⟩), .int .i64 n] w fun e w' => ∃ v', e = .returned (.tuple #[.int .i64 (Po.againNum last ls n), .int .i64 (Po.againErr ls n)]) ∧ PostAt w' s nodes (Po.againLast last ls n) v' (Po.againTo last ls n) ∧ Turns w w' s v ∧ Moves w v v' := by
  unfold Po.againNum Po.againLast Po.againTo
  cases hg : Po.get ls n with
  | none =>
    have e : Po.againErr ls n = 6 := by unfold Po.againErr; rw [hg]; rfl
    rw [e]
    exact (again_none n w h hg).mono fun _ _ ⟨he, hg⟩ => ⟨v, he, h.still hg, .of_grown hg, .refl _ _⟩
  | some x =>
    by_cases h4 : 2048 ≤ ls.length
    · have e : Po.againErr ls n = 5 := by unfold Po.againErr Po.addErr; simp [hg, h4]
      rw [e]
      exact (again_full n w h hg h4).mono fun _ _ ⟨he, hg⟩ => ⟨v, he, h.still hg, .of_grown hg, .refl _ _⟩
    · have e : Po.againErr ls n = 0 := by unfold Po.againErr Po.addErr; simp [hg, h4]
      rw [e]
      exact again_ok n w h hlast hg (by omega)
end Go.Proofs.Ytlhobncpifklkaa
