/-
  panel's functions, as far as a tally asks them; the document's f; equal lists of numbers.
-/
import Derived.Test.YtdcknokggjbebaaRows
import Derived.Test.YtdcknokggjbebaaYPn
import Derived.Test.YtdcknokggjbebaaRow
import Derived.WalkKit
import Derived.WalkSpells
import Derived.ProofKit
import Derived.BigQuiet
import Derived.WalkSmall
import Derived.WalkLawsBesides
import Derived.Deep.QuietTactic
namespace Go.Proofs.Ytdcknokggjbebaa
open Go.RowKit

theorem own : ownKnob Try.prog.godebug = none := by kernel_rfl
theorem laidOut : laidOutB Try.prog = true := by kernel_rfl

theorem isPanel_yes {n f : Int} (w : World) (h : Pn.Is n f) : Calls Try.prog 33 #[.int .i64 n] w fun e w' => e = .returned (.bool true) ∧ w' = w := by
  rcases h with ⟨rfl, rfl⟩ | ⟨rfl, rfl⟩ | ⟨rfl, rfl⟩ | ⟨rfl, rfl⟩
  all_goals
    go_enter Try.func33, Try.ntmps33
    go_wp2
    go_ret
    exact ⟨rfl, rfl⟩
theorem isPanel_no {n : Int} (w : World) (h : Pn.No n) : Calls Try.prog 33 #[.int .i64 n] w fun e w' => e = .returned (.bool false) ∧ w' = w := by
  rcases h with h | h | rfl | rfl | rfl
  · have h' : ¬ 1 ≤ n := by omega
    go_enter Try.func33, Try.ntmps33
    go_wp2
    go_ret
    exact ⟨rfl, rfl⟩
  · have h' : 1 ≤ n := by omega
    have h'' : ¬ n ≤ 7 := by omega
    go_enter Try.func33, Try.ntmps33
    go_wp2
    go_ret
    exact ⟨rfl, rfl⟩
  all_goals
    go_enter Try.func33, Try.ntmps33
    go_wp2
    go_ret
    exact ⟨rfl, rfl⟩
theorem replicas_any {n f : Int} (w : World) (h : Pn.Is n f) : Calls Try.prog 36 #[.int .i64 n] w fun e w' => e = .returned (.int .i64 (f + 1)) ∧ w' = w := by
  rcases h with ⟨rfl, rfl⟩ | ⟨rfl, rfl⟩ | ⟨rfl, rfl⟩ | ⟨rfl, rfl⟩
  all_goals
    go_enter Try.func36, Try.ntmps36
    go_wp2
    go_ret
    exact ⟨rfl, rfl⟩
theorem faults_yes {n f : Int} (w : World) (h : Pn.Is n f) : Calls Try.prog 24 #[.int .i64 n] w fun e w' => e = .returned (.tuple #[.int .i64 f, .int .i64 0]) ∧ w' = w := by
  have H : Hid (Pn.Is n f) := h
  rcases h with ⟨rfl, rfl⟩ | ⟨rfl, rfl⟩ | ⟨rfl, rfl⟩ | ⟨rfl, rfl⟩
  all_goals
    go_enter Try.func24, Try.ntmps24
    go_wp2_with fail
    refine (isPanel_yes _ H.out).mono ?_
    rintro e w' ⟨rfl, rfl⟩
    go_wp2
    go_ret2
    exact ⟨rfl, rfl⟩
theorem faults_no {n : Int} (w : World) (h : Pn.No n) : Calls Try.prog 24 #[.int .i64 n] w fun e w' => e = .returned (.tuple #[.int .i64 0, .int .i64 1]) ∧ w' = w := by
  have H : Hid (Pn.No n) := h
  clear h
  go_enter Try.func24, Try.ntmps24
  go_wp2_with fail
  refine (isPanel_no _ H.out).mono ?_
  rintro e w' ⟨rfl, rfl⟩
  go_wp2
  go_ret2
  exact ⟨rfl, rfl⟩

namespace Pop
def o1 (x : Int) : Int := IntKind.u64.wrap (bits .and .u64 (x / 2) 6148914691236517205 + bits .and .u64 x 6148914691236517205)
def o2 (x : Int) : Int := IntKind.u64.wrap (bits .and .u64 (x / 4) 3689348814741910323 + bits .and .u64 x 3689348814741910323)
def o3 (x : Int) : Int := bits .and .u64 (IntKind.u64.wrap (x / 16 + x)) 1085102592571150095
def o4 (x : Int) : Int := IntKind.u64.wrap (x + x / 256)
def o5 (x : Int) : Int := IntKind.u64.wrap (x + x / 65536)
def o6 (x : Int) : Int := IntKind.u64.wrap (x + x / 4294967296)
def o7 (x : Int) : Int := bits .and .i64 (wrap64 x) 127
theorem all : ∀ x : Fin 128, o7 (o6 (o5 (o4 (o3 (o2 (o1 (x.1 : Int))))))) = ((List.range 7).countP (Pn.bit x.1) : Nat) := by decide +kernel
end Pop
set_option maxHeartbeats 400000 in
theorem ones64_any (x : Nat) (w : World) (h : x < 128) : Calls Try.prog 38 #[.int .u64 x] w fun e w' => e = .returned (.int .i64 ((List.range 7).countP (Pn.bit x) : Nat)) ∧ w' = w := by
  have h0 : (0 : Int) ≤ (x : Int) := by omega
  have h1 : (x : Int) < 128 := by omega
  have E : Hid _ := Pop.all ⟨x, h⟩
  go_enter Try.func38, Try.ntmps38
  go_wp2
  go_ret
  exact ⟨congrArg (fun z => Ending.returned (Value.int .i64 z)) E.out, rfl⟩
set_option maxHeartbeats 400000 in
theorem ones_any (x : Nat) (w : World) (h : x < 128) : Calls Try.prog 35 #[.int .u64 x] w fun e w' => e = .returned (.int .i64 ((List.range 7).countP (Pn.bit x) : Nat)) ∧ w' = w := by
  have H : Hid (x < 128) := h
  go_enter Try.func35, Try.ntmps35
  go_wp2_with fail
  refine (ones64_any _ _ H.out).mono ?_
  rintro e w' ⟨rfl, rfl⟩
  go_wp2
  go_ret
  exact ⟨rfl, rfl⟩

theorem isSet_yes {n f : Int} (s : Nat) (w : World) (h : Pn.Is n f) (hs : (s : Int) < 2 ^ n.toNat) : Calls Try.prog 34 #[.int .i64 n, .int .i64 s] w fun e w' => e = .returned (.bool true) ∧ w' = w := by
  rcases h with ⟨rfl, rfl⟩ | ⟨rfl, rfl⟩ | ⟨rfl, rfl⟩ | ⟨rfl, rfl⟩
  all_goals
    have h1 : (0 : Int) ≤ (s : Int) := by omega
    simp at hs
    go_enter Try.func34, Try.ntmps34
    go_wp2
    go_ret
    exact ⟨rfl, rfl⟩
theorem isSet_no {n f : Int} (s : Int) (w : World) (h : Pn.Is n f) (hs : s < 0 ∨ 2 ^ n.toNat ≤ s) : Calls Try.prog 34 #[.int .i64 n, .int .i64 s] w fun e w' => e = .returned (.bool false) ∧ w' = w := by
  rcases hs with hs | hs
  · have h1 : ¬ (0 : Int) ≤ s := by omega
    go_enter Try.func34, Try.ntmps34
    go_wp2
    go_ret
    exact ⟨rfl, rfl⟩
  · rcases h with ⟨rfl, rfl⟩ | ⟨rfl, rfl⟩ | ⟨rfl, rfl⟩ | ⟨rfl, rfl⟩
    all_goals
      simp at hs
      have h1 : (0 : Int) ≤ s := by omega
      rw [← Int.not_lt] at hs
      go_enter Try.func34, Try.ntmps34
      go_wp2
      go_ret
      exact ⟨rfl, rfl⟩
theorem refFaults_yes {n f : Int} (w : World) (h : Pn.Is n f) : Calls Try.prog 22 #[.int .i64 n] w fun e w' => e = .returned (.int .i64 f) ∧ w' = w := by
  rcases h with ⟨rfl, rfl⟩ | ⟨rfl, rfl⟩ | ⟨rfl, rfl⟩ | ⟨rfl, rfl⟩
  all_goals
    go_enter Try.func22, Try.ntmps22
    go_wp2
    refine wp_loop_rounds 4 ?_
    repeat (rw [rounds_succ]; go_wp2)
    go_ret
    exact ⟨rfl, rfl⟩
theorem refFaults_no {n : Int} (w : World) (h : Pn.No n) : Calls Try.prog 22 #[.int .i64 n] w fun e w' => e = .returned (.int .i64 (-1)) ∧ w' = w := by
  have h1 : ¬ n = 1 := by rcases h with h | h | h | h | h <;> omega
  have h3 : ¬ n = 3 := by rcases h with h | h | h | h | h <;> omega
  have h5 : ¬ n = 5 := by rcases h with h | h | h | h | h <;> omega
  have h7 : ¬ n = 7 := by rcases h with h | h | h | h | h <;> omega
  clear h
  go_enter Try.func22, Try.ntmps22
  go_wp2
  refine wp_loop_rounds 5 ?_
  repeat (rw [rounds_succ]; go_wp2)
  go_ret
  exact ⟨rfl, rfl⟩
theorem enough_no {n : Int} (s : Int) (w : World) (h : Pn.No n) : Calls Try.prog 32 #[.int .i64 n, .int .i64 s] w fun e w' => e = .returned (.tuple #[.bool false, .int .i64 1]) ∧ w' = w := by
  have H : Hid (Pn.No n) := h
  clear h
  go_enter Try.func32, Try.ntmps32
  go_wp2_with fail
  refine (isPanel_no _ H.out).mono ?_
  rintro e w' ⟨rfl, rfl⟩
  go_wp2
  go_ret2
  exact ⟨rfl, rfl⟩
/-- Within a set of n nodes no other ones are counted. -/
theorem Pn.count7 {n s : Nat} (hn : n ≤ 7) (hs : s < 2 ^ n) : (List.range 7).countP (Pn.bit s) = (List.range n).countP (Pn.bit s) := by
  rw [show 7 = n + (7 - n) from by omega, List.range_add, List.countP_append]
  have : ((List.range (7 - n)).map (n + ·)).countP (Pn.bit s) = 0 := by
    rw [List.countP_eq_zero]
    intro i hi
    obtain ⟨j, _, rfl⟩ := List.mem_map.1 hi
    have : s < 2 ^ (n + j) := Nat.lt_of_lt_of_le hs (Nat.pow_le_pow_right (by decide) (by omega))
    simp [Pn.bit, Nat.div_eq_of_lt this]
  omega
theorem enough_yes {n f : Int} (s : Nat) (w : World) (h : Pn.Is n f) (hs : s < 2 ^ n.toNat) : Calls Try.prog 32 #[.int .i64 n, .int .i64 s] w fun e w' => e = .returned (.tuple #[.bool (decide (f + 1 ≤ ((List.range n.toNat).countP (Pn.bit s) : Nat))), .int .i64 0]) ∧ w' = w := by
  have H : Hid (Pn.Is n f) := h
  have hn : n.toNat ≤ 7 := by rcases h with ⟨rfl, rfl⟩ | ⟨rfl, rfl⟩ | ⟨rfl, rfl⟩ | ⟨rfl, rfl⟩ <;> decide
  have hlt : s < 128 := Nat.lt_of_lt_of_le hs (Nat.le_trans (Nat.pow_le_pow_right (by decide) hn) (by decide))
  have hsI : ((s : Nat) : Int) < 2 ^ n.toNat := by
    have : ((s : Nat) : Int) < ((2 ^ n.toNat : Nat) : Int) := by omega
    simpa using this
  have HS : Hid (((s : Nat) : Int) < 2 ^ n.toNat) := hsI
  clear hsI
  rw [← Pn.count7 hn hs]
  generalize hc : (List.range 7).countP (Pn.bit s) = c
  have HC : Hid ((List.range 7).countP (Pn.bit s) = c) := hc
  have HL : Hid (s < 128) := hlt
  have c0 : (0 : Int) ≤ (s : Int) := by omega
  have c1 : (s : Int) < 128 := by omega
  clear h hc hs hn hlt
  go_enter Try.func32, Try.ntmps32
  go_wp2_with fail
  refine (isPanel_yes _ H.out).mono ?_
  rintro e w' ⟨rfl, rfl⟩
  go_wp2_with fail
  refine (isSet_yes _ _ H.out HS.out).mono ?_
  rintro e w' ⟨rfl, rfl⟩
  go_wp2_with fail
  refine (ones_any _ _ HL.out).mono ?_
  rintro e w' ⟨rfl, rfl⟩
  rw [HC.out]
  go_wp2_with fail
  refine (replicas_any _ H.out).mono ?_
  rintro e w' ⟨rfl, rfl⟩
  go_wp2
  go_ret2
  exact ⟨rfl, rfl⟩
theorem nodes_no {n : Int} (s : Int) (w : World) (h : Pn.No n) : Calls Try.prog 29 #[.int .i64 n, .int .i64 s] w fun e w' => e = .returned (.tuple #[.slice none 0 0, .int .i64 1]) ∧ w' = w := by
  have H : Hid (Pn.No n) := h
  clear h
  go_enter Try.func29, Try.ntmps29
  go_wp2_with fail
  refine (isPanel_no _ H.out).mono ?_
  rintro e w' ⟨rfl, rfl⟩
  go_wp2
  go_ret2
  exact ⟨rfl, rfl⟩
theorem and_one : ∀ x : Fin 128, bits .and .i64 (x.1 : Int) 1 = ((x.1 % 2 : Nat) : Int) := by decide +kernel
theorem bit_and {s k : Nat} (h : s < 128) : bits .and .i64 ((s : Int) / 2 ^ k) 1 = if Pn.bit s k then 1 else 0 := by
  have e : ((s : Int) / 2 ^ k) = ((s / 2 ^ k : Nat) : Int) := by simp
  have hl : s / 2 ^ k < 128 := Nat.lt_of_le_of_lt (Nat.div_le_self _ _) h
  rw [e, and_one ⟨s / 2 ^ k, hl⟩]
  unfold Pn.bit
  by_cases hb : s / 2 ^ k % 2 = 1
  · simp [hb]
  · have : s / 2 ^ k % 2 = 0 := by omega
    simp [this]
theorem info_parts {P : Program} {e : TypeId} {z : Value} {n b : Nat} (h : (P.info? e).map (fun i => (i.zero, i.size, i.bytes)) = some (some z, n, b)) : ∃ i, P.info? e = some i ∧ i.zero = some z ∧ i.size = n ∧ i.bytes = b := by
  cases hi : P.info? e with
  | none => rw [hi] at h; cases h
  | some i =>
    rw [hi] at h
    simp at h
    exact ⟨i, rfl, h.1, h.2.1, h.2.2⟩
theorem info3 : (Try.prog.info? 3).map (fun i => (i.zero, i.size, i.bytes)) = some (some (.int .i64 0), 1, 8) := by kernel_rfl
def EI : Enc Int := { sz := 1, cells := fun x => [.int .i64 x], len := fun _ => rfl, one := fun x u hu => by simp at hu; subst hu; rfl }
theorem at_oneI {w : World} {A : Nat} {x : Int} (h : w.heap[A]? = some (.cells #[.int .i64 x] 3)) : AtW EI w (.slice (some ⟨A, 0, none⟩) 1 1) [x] := by
  refine .inr ⟨A, 0, 1, rfl, trivial, (Array.getElem?_eq_some_iff.1 h).1, by simp, by simp, by unfold maxLen; omega, fun j u hj => ?_⟩
  match j, hj with
  | 0, hj => simp [Enc.flat, EI] at hj; subst hj; simp [World.cell?, h]
theorem Row.slice3 {α : Type} {E : Enc α} {w : World} {B : Nat} {e : TypeId} {v : Value} {ls : List α} (h : Row E w B e v ls) : ∃ p n c, v = .slice p n c := by
  obtain ⟨p, c, h⟩ := h.slice
  exact ⟨p, _, c, h⟩
set_option maxRecDepth 100000 in
set_option maxHeartbeats 1000000 in
theorem nodes_yes {n f : Int} (s : Nat) (w : World) (h : Pn.Is n f) (hs : s < 2 ^ n.toNat) : Calls Try.prog 29 #[.int .i64 n, .int .i64 s] w fun e w' => ∃ v, e = .returned (.tuple #[v, .int .i64 0]) ∧ Row EI w' w.heap.size 3 v (Pn.nodes s n.toNat) ∧ Below w.heap.size w w' := by
  have H : Hid (Pn.Is n f) := h
  obtain ⟨i0, hi, hz0, hz1, hz2⟩ := info_parts info3
  obtain ⟨m, hm, hm7⟩ : ∃ m : Nat, n = m ∧ m ≤ 7 := by
    rcases h with ⟨rfl, rfl⟩ | ⟨rfl, rfl⟩ | ⟨rfl, rfl⟩ | ⟨rfl, rfl⟩
    · exact ⟨1, rfl, by decide⟩
    · exact ⟨3, rfl, by decide⟩
    · exact ⟨5, rfl, by decide⟩
    · exact ⟨7, rfl, by decide⟩
  subst hm
  have hsI : ((s : Nat) : Int) < 2 ^ (m : Int).toNat := by
    have : ((s : Nat) : Int) < ((2 ^ (m : Int).toNat : Nat) : Int) := by omega
    simpa using this
  have HS : Hid (((s : Nat) : Int) < 2 ^ (m : Int).toNat) := hsI
  have hlt : s < 128 := Nat.lt_of_lt_of_le hs (Nat.le_trans (Nat.pow_le_pow_right (by decide) (show (m : Int).toNat ≤ 7 by omega)) (by decide))
  have c0 : (0 : Int) ≤ (s : Int) := by omega
  have c1 : (s : Int) < 128 := by omega
  have c7 : (m : Int) ≤ 7 := by omega
  simp only [Int.toNat_natCast]
  clear h hsI hs
  go_enter Try.func29, Try.ntmps29
  go_wp2_with fail
  refine (isPanel_yes _ H.out).mono ?_
  rintro e w' ⟨rfl, rfl⟩
  go_wp2_with fail
  refine (isSet_yes _ _ H.out HS.out).mono ?_
  rintro e w' ⟨rfl, rfl⟩
  go_wp2
  go_loopw [6, 18] (fun v u wr => ∃ (k : Nat) (pp : Option Addr) (jj q : Nat), k ≤ m ∧ u = .int .i64 k ∧ v = .slice pp jj q ∧ Hid (Row EI wr w'.heap.size 3 (.slice pp jj q) (Pn.nodes s k)) ∧ Hid (Below w'.heap.size w' wr)) (fun _ u _ => m - (intOf u).toNat)
  case atStart => exact ⟨0, none, 0, 0, Nat.zero_le _, rfl, rfl, Row.nil _ _ _ _, Below.refl _ _⟩
  case round =>
    obtain ⟨k, pp, jj, q, hk, rfl, rfl, HR, HB⟩ := hrel
    have hsz := HB.out.size
    by_cases hlt' : k < m
    · have hltI : (k : Int) < (m : Int) := by omega
      have HLEN : Hid ((Pn.nodes s k).length ≤ k) := Pn.nodes_le s k
      cases hb : Pn.bit s k with
      | true =>
        have hbit : bits .and .i64 ((s : Int) / 2 ^ k) 1 = 1 := by rw [bit_and hlt, hb]; rfl
        have HUP : Hid (Below wr.heap.size wr (wr.alloc (.cells #[.int .i64 (k : Int)] 3))) := (Below.refl _ _).alloc (Nat.le_refl _) _
        have HR3 : Hid (Row EI (wr.alloc (.cells #[.int .i64 (k : Int)] 3)) w'.heap.size 3 (.slice pp jj q) (Pn.nodes s k)) := HR.out.up HUP.out
        have HB3 : Hid (Below w'.heap.size w' (wr.alloc (.cells #[.int .i64 (k : Int)] 3))) := HB.out.alloc hsz _
        have HO : Hid (AtW EI (wr.alloc (.cells #[.int .i64 (k : Int)] 3)) (.slice (some ⟨wr.heap.size, 0, none⟩) 1 1) [(k : Int)]) := at_oneI (heap_alloc_new _ _)
        have HG : Hid (Pn.nodes s (k + 1) = Pn.nodes s k ++ [(k : Int)]) := Pn.nodes_yes hb
        go_wp2_with (at_builtin; refine wpList_row _ rfl _ _ 46 rfl EI (fun _ => True) w'.heap.size 3 i0 _ 8 Try.underlying46 hi hz0 hz1 hz2 rfl _ (Pn.nodes s k) rfl HR3.out _ [(k : Int)] rfl HO.out (by have := HLEN.out; unfold maxLen; simp only [List.length_cons, List.length_nil]; omega) (by have := HLEN.out; simp only [List.length_cons, List.length_nil]; omega) (by simp; omega) ?_; intro v7 w7 hrow7 hg7 hloc7)
        have HEND : Hid (Row EI w7 w'.heap.size 3 v7 (Pn.nodes s (k + 1)) ∧ Below w'.heap.size w' w7) := ⟨by rw [HG.out]; exact hrow7, HB3.out.grown hg7 (by simp; omega) (fun k hk => (HR3.out.lt k hk).1)⟩
        clear hrow7 hg7 hloc7 hb
        obtain ⟨p7, n7, c7', rfl⟩ := HEND.out.1.slice3
        go_wp2
        go_roundw
        case rel => exact ⟨k + 1, p7, n7, c7', by omega, by go_num, rfl, HEND.out.1, HEND.out.2⟩
        case measure => simp [intOf]; omega
      | false =>
        have hbit : bits .and .i64 ((s : Int) / 2 ^ k) 1 = 0 := by rw [bit_and hlt, hb]; rfl
        have HG : Hid (Pn.nodes s (k + 1) = Pn.nodes s k) := Pn.nodes_no hb
        clear hb
        go_wp2
        go_roundw
        case rel => exact ⟨k + 1, pp, jj, q, by omega, by go_num, rfl, by rw [HG.out]; exact HR.out, HB.out⟩
        case measure => simp [intOf]; omega
    · obtain rfl : k = m := by omega
      go_wp2
      go_ret2
      exact ⟨_, rfl, HR.out, HB.out⟩
set_option maxHeartbeats 1000000 in
theorem ints_same {S T : Nat → Prop} (u v : Value) (l : List Int) (w : World) (hu : At EI S w u l) (hv : At EI T w v l) :
    Calls Try.prog 18 #[u, v] w fun e w' => e = .returned (.bool true) ∧ Below w.heap.size w w' := by
  obtain ⟨ao, cap, rfl, hm, hx⟩ := hu.open
  obtain ⟨bo, cap', rfl, _, hy⟩ := hv.open
  clear hu hv
  unfold maxLen at hm
  obtain ⟨n, hn⟩ : ∃ n, l.length = n := ⟨_, rfl⟩
  rw [hn] at hm ⊢
  have HN : Hid (l.length = n) := hn
  have HX : Hid (∀ i x, l[i]? = some x → ∃ b off, ao = some ⟨b, off, none⟩ ∧ S b ∧ b < w.heap.size ∧ ∀ k u, (EI.cells x)[k]? = some u → w.cell? ⟨b, off + (i * 1 + k), none⟩ = some u) := hx
  have HY : Hid (∀ i x, l[i]? = some x → ∃ b off, bo = some ⟨b, off, none⟩ ∧ T b ∧ b < w.heap.size ∧ ∀ k u, (EI.cells x)[k]? = some u → w.cell? ⟨b, off + (i * 1 + k), none⟩ = some u) := hy
  clear hn hx hy
  go_enter Try.func18, Try.ntmps18
  go_wp2
  go_loopw [8] (fun i wr => ∃ k : Nat, k ≤ n ∧ i = .int .i64 k ∧ Below w.heap.size w wr) (fun i _ => n - (intOf i).toNat)
  case atStart => exact ⟨0, Nat.zero_le _, rfl, Below.refl _ _⟩
  case round =>
    obtain ⟨k, hk, rfl, hbl⟩ := hrel
    by_cases hlt : k < n
    · obtain ⟨y, hyk⟩ : ∃ y, l[k]? = some y := ⟨_, List.getElem?_eq_getElem (by rw [HN.out]; exact hlt)⟩
      obtain ⟨b, off, rfl, _, hB, hc⟩ := HX.out k y hyk
      obtain ⟨b', off', rfl, _, hB', hc'⟩ := HY.out k y hyk
      have c0 := hc 0 _ rfl
      have d0 := hc' 0 _ rfl
      rw [← hbl.cell (p := ⟨b, off + (k * 1 + 0), none⟩) hB, Nat.add_zero, Nat.mul_one] at c0
      rw [← hbl.cell (p := ⟨b', off' + (k * 1 + 0), none⟩) hB', Nat.add_zero, Nat.mul_one] at d0
      have hlt' : (k : Int) < (n : Int) := by omega
      have hge : decide ((n : Int) ≤ (k : Int)) = false := by simp; omega
      have hge2 : decide (n ≤ k) = false := by simp; omega
      clear hyk hc hc'
      go_wp2
      go_quiet (fail)
      go_wp2
      go_roundw
      case rel => exact ⟨k + 1, by omega, by go_num, Go.below_drewN hbl _⟩
      case measure => simp [intOf]; omega
    · obtain rfl : k = n := by omega
      go_wp2
      go_ret
      exact ⟨by simp, hbl⟩
end Go.Proofs.Ytdcknokggjbebaa
