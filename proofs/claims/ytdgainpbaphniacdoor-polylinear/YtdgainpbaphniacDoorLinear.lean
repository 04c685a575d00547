/-
  For any three strings sextonlaw02.PolyLinear returns true, whatever the memory that holds the table halves as the program's text lays it: of three texts of one length, xored byte by byte, the sum is their sums, xored. No other condition.
-/
import Derived.Test.YtdgainpbaphniacDoorCards
import Derived.Test.YtdgainpbaphniacDoorTie
import Derived.Test.YtdgainpbaphniacDoorLaw
import Derived.Test.YtdgainpbaphniacDoorFrame
import Derived.SizedLaws
import Derived.Laws.BytesArg
import Derived.BigQuiet
import Derived.Deep.QuietTactic
import Derived.Deep.RegionHeld3
import Derived.Deep.AppendLies
namespace Go.Proofs.YtdgainpbaphniacDoor
open Go.ChangeShapes Go.WideShapes Go.ChangeAt Go.RowKit
open Go.ChangeMaps (open_string)

namespace Pl
def txt (l : List UInt8) : ByteArray := ⟨l.toArray⟩
theorem txt_data (l : List UInt8) : (txt l).data.toList = l := by simp [txt]
theorem txt_size (l : List UInt8) : (txt l).size = l.length := by simp [txt, ByteArray.size]
/-- the three texts xored, as far as k -/
def xors (A B C : List UInt8) (k : Nat) : List UInt8 := (List.range k).map fun i => A.getD i 0 ^^^ B.getD i 0 ^^^ C.getD i 0
theorem xors_length (A B C : List UInt8) (k : Nat) : (xors A B C k).length = k := by simp [xors]
theorem xors_succ (A B C : List UInt8) (k : Nat) : xors A B C (k + 1) = xors A B C k ++ [A.getD k 0 ^^^ B.getD k 0 ^^^ C.getD k 0] := by simp [xors, List.range_succ]
theorem xor3 (a b c : Nat) (p q r : Nat) : (a ^^^ b ^^^ c) ^^^ (p ^^^ q ^^^ r) = (a ^^^ p) ^^^ (b ^^^ q) ^^^ (c ^^^ r) := by
  apply Nat.eq_of_testBit_eq
  intro i
  simp only [Nat.testBit_xor]
  cases a.testBit i <;> cases b.testBit i <;> cases c.testBit i <;> cases p.testBit i <;> cases q.testBit i <;> cases r.testBit i <;> rfl
theorem bitN_xor3 (k a b c : Nat) : bitN k (a ^^^ b ^^^ c) = bitN k a ^^^ bitN k b ^^^ bitN k c := by rw [bitN_xor, bitN_xor]
theorem take_getD (A : List UInt8) (k : Nat) (h : k < A.length) : A.take (k + 1) = A.take k ++ [A.getD k 0] := by
  rw [List.take_succ_eq_append_getElem h]; simp [List.getD, h]
theorem sums_xors (A B C : List UInt8) : ∀ k, k ≤ A.length → k ≤ B.length → k ≤ C.length →
    sums 4294967295 (xors A B C k) = sums 4294967295 (A.take k) ^^^ sums 4294967295 (B.take k) ^^^ sums 4294967295 (C.take k)
  | 0, _, _, _ => by simp only [List.take_zero, xors, List.range_zero, List.map_nil]; decide
  | k + 1, ha, hb, hc => by
    rw [xors_succ, sums_snoc, take_getD A k (by omega), take_getD B k (by omega), take_getD C k (by omega), sums_snoc, sums_snoc, sums_snoc, sums_xors A B C k (by omega) (by omega) (by omega)]
    unfold byte
    rw [UInt8.toNat_xor, UInt8.toNat_xor, xor3, bitN_xor3]
theorem crc_xors (A B C : List UInt8) (k : Nat) (ha : k ≤ A.length) (hb : k ≤ B.length) (hc : k ≤ C.length) :
    crc (xors A B C k) = crc (A.take k) ^^^ crc (B.take k) ^^^ crc (C.take k) := by
  unfold crc
  rw [sums_xors A B C k ha hb hc]
  rw [← xor3]
  rfl
end Pl

theorem conv_own {base : Nat} {W : World} {v : Value} {l : List UInt8} (h : W.ownsRow base 5 1 v l.length (l.map fun b => Value.int .u8 (b.toNat : Int))) : (convert 22 9 v).run Tryd.prog W = .ok (.string (Pl.txt l)) W := by
  rcases h.2 with ⟨rfl, hn⟩ | ⟨g, cap, cur, rfl, hbg, hg, hnc, hcm, hcs, htake⟩
  · obtain rfl := List.eq_nil_of_length_eq_zero hn
    exact run_convert_bytes_nil W 22 5 Tryd.underlying22 Tryd.underlying5 0 0 9 Tryd.underlying9
  · have := run_convert_bytes_arg W 22 5 Tryd.underlying22 Tryd.underlying5 g 0 l.length cap (l.map fun b => (b.toNat : Int)) (by simp) (fun i hi => by
      have := h.cells (g := g) rfl i (.int .u8 ((l.map fun b => (b.toNat : Int)).getD i 0)) (by simp [List.getD, hi])
      rw [WideShapes.add_plain] at this
      exact this) 9 Tryd.underlying9
    rw [this]
    congr 2
    unfold strOfNums Pl.txt
    rw [List.map_map]
    congr 2
    exact (List.map_congr_left fun b _ => by simp).trans (List.map_id l)

theorem getD_at (s : ByteArray) (i : Nat) (h : i < s.size) : s.data.toList.getD i 0 = s[i] := by
  have h2 : i < s.data.toList.length := by simpa using h
  simp only [List.getD, List.getElem?_eq_getElem h2, Option.getD_some]
  simp
  rfl
theorem extract_take (s : ByteArray) (n : Nat) : (s.extract 0 n).data.toList = s.data.toList.take n := by
  rw [ByteArray.data_extract, Array.toList_extract]
  unfold List.extract
  rw [List.drop_zero, Nat.sub_zero]
theorem u8_xor2 (x y : UInt8) : bits .xor .u8 (x.toNat : Int) (y.toNat : Int) = ((x.toNat ^^^ y.toNat : Nat) : Int) := u8_xor_nat _ _ x.toNat_lt y.toNat_lt
theorem own_drewN {w : World} {base : Nat} {e : TypeId} {size : Nat} {v : Value} {n : Nat} {xs : List Value} (h : w.ownsRow base e size v n xs) (k : Nat) : (w.drewN k).ownsRow base e size v n xs := h
theorem info5 : (Tryd.prog.info? 5).map (fun i => (i.zero, i.size, i.bytes)) = some (some (.int .u8 0), 1, 1) := by kernel_rfl

def Pl.crcS (s : ByteArray) : Nat := Pl.crc s.data.toList
theorem sum_q (s : ByteArray) (w : World) (hs : s.size ≤ maxLen) (ht : Tab w) : Calls Tryd.prog 4 #[.string s] w fun e w' => e = .returned (.int .i64 (Pl.crcS s)) ∧ w' = w := sum_any s w hs ht
theorem extract_full (s : ByteArray) : s.extract 0 s.size = s := by
  apply ByteArray.ext
  apply Array.ext'
  rw [extract_take]
  exact List.take_of_length_le (by simp)
theorem Tab.pos {w : World} (h : Tab w) : 0 < w.heap.size := by
  have h0 := h 0 (by decide)
  rcases Nat.eq_zero_or_pos w.heap.size with h' | h'
  · have : w.heap[0]? = none := Array.getElem?_eq_none (by omega)
    simp [World.cell?, this] at h0
  · exact h'
theorem Tab.below {w w' : World} (h : Tab w) (hb : Below w.heap.size w w') : Tab w' := fun j hj => by
  rw [hb.cell (p := ⟨0, j, none⟩) h.pos]
  exact h j hj

set_option maxHeartbeats 4000000 in
theorem linear_law (a b c : ByteArray) (w : World) (ha : a.size ≤ 140737488351232) (hb : b.size ≤ 140737488351232) (hc : c.size ≤ 140737488351232) (hT : Tab w) :
    Calls Tryd.prog 3 #[.string a, .string b, .string c] w fun e w' => e = .returned (.bool true) ∧ Below w.heap.size w w' := by
  obtain ⟨i0, hi, hz0, hz1, hz2⟩ := info_parts info5
  have HT : Hid (Tab w) := hT
  clear hT
  by_cases h1 : b.size < a.size
  · by_cases h2 : c.size < b.size
    · go_enter Tryd.func3, Tryd.ntmps3
      go_wp2
      go_loopw [8, 9] (fun r i wr => ∃ k : Nat, k ≤ c.size ∧ i = .int .i64 k ∧ wr.ownsRow w.heap.size 5 1 r k ((Pl.xors a.data.toList b.data.toList c.data.toList k).map fun b => Value.int .u8 (b.toNat : Int)) ∧ Below w.heap.size w wr) (fun _ i _ => c.size - (intOf i).toNat)
      case atStart => exact ⟨0, Nat.zero_le _, rfl, World.ownsRow_nil _ _ _ _, Below.refl _ _⟩
      case round =>
        obtain ⟨k, hk, rfl, hown, hbl⟩ := hrel
        have hsz := hbl.size
        by_cases hlt : k < c.size
        · have pa : k < a.size := by omega
          have pb : k < b.size := by omega
          have pc : k < c.size := by omega
          have HX : Hid (Pl.xors a.data.toList b.data.toList c.data.toList (k + 1) = Pl.xors a.data.toList b.data.toList c.data.toList k ++ [(a[k]'pa) ^^^ (b[k]'pb) ^^^ (c[k]'pc)]) := by
            show _ = _
            rw [Pl.xors_succ, getD_at a k pa, getD_at b k pb, getD_at c k pc]
          have x1 := u8_xor2 (a[k]'pa) (b[k]'pb)
          have x2 := u8_xor2 ((a[k]'pa) ^^^ (b[k]'pb)) (c[k]'pc)
          rw [UInt8.toNat_xor] at x2
          obtain ⟨z, hz⟩ : ∃ z, ((a[k]'pa) ^^^ (b[k]'pb)).toNat ^^^ (c[k]'pc).toNat = z := ⟨_, rfl⟩
          rw [UInt8.toNat_xor] at hz
          obtain ⟨y, hy⟩ : ∃ y, (a[k]'pa).toNat ^^^ (b[k]'pb).toNat = y := ⟨_, rfl⟩
          rw [hy] at x1 x2 hz
          rw [hz] at x2
          have HZ : Hid (((a[k]'pa) ^^^ (b[k]'pb) ^^^ (c[k]'pc)).toNat = z) := by show _ = _; rw [UInt8.toNat_xor, UInt8.toNat_xor, hy, hz]
          clear hy hz
          have q0 : (0 : Int) ≤ (k : Int) := by omega
          have qa : (k : Int) < (a.size : Int) := by omega
          have qb : (k : Int) < (b.size : Int) := by omega
          have qc : (k : Int) < (c.size : Int) := by omega
          generalize hXK : Pl.xors a.data.toList b.data.toList c.data.toList k = X at *
          clear hXK
          go_wp2_with fail
          go_region_held3 (fun _ => True) (trivial) ((refine step_append_lies _ (by rfl) _ _ _ (by rfl) w.heap.size 5 i0 (.int .u8 0) 1 1 Tryd.underlying22 hi hz0 hz1 hz2 rfl (by omega) _ k _ (by rfl) ((hown.alloc _).drew) ⟨wr.heap.size, 0, none⟩ 1 1 [.int .u8 (z : Int)] (by rfl) (by rfl) (World.news_of_block (cs := #[.int .u8 (z : Int)]) (t := 5) (fr := (0, 0)) (heap_alloc_new wr _)) (by simp [Value.oneCell']) (by omega) (by unfold maxLen; omega) (by omega) (by simp; omega) (wr.heap.size + 1) (by simp) ?_; intro gg cap w1 hown1 hgrow hat hlt1))
          all_goals go_wp2
          all_goals
            go_roundw
            case rel =>
              refine ⟨k + 1, by omega, by go_num, ?_, ((hbl.alloc hsz _).drew).grown hgrow (by simp; omega) (fun g hg => (hown.lt g hg).1)⟩
              rw [HX.out, List.map_append]
              simp only [List.map_cons, List.map_nil]
              rw [HZ.out]
              exact hown1
            case measure => simp [intOf]; omega
        · obtain rfl : k = c.size := by omega
          have hfull : c.extract 0 c.size = c := extract_full c
          have HX := Pl.crc_xors a.data.toList b.data.toList c.data.toList c.size (by first | (simp; done) | (simp; omega)) (by first | (simp; done) | (simp; omega)) (by first | (simp; done) | (simp; omega))
          have xl := Pl.xors_length a.data.toList b.data.toList c.data.toList c.size
          have zX : (Pl.txt (Pl.xors a.data.toList b.data.toList c.data.toList c.size)).size ≤ maxLen := by rw [Pl.txt_size, xl]; unfold maxLen; omega
          have hcX : Pl.crcS (Pl.txt (Pl.xors a.data.toList b.data.toList c.data.toList c.size)) = Pl.crcS (a.extract 0 c.size) ^^^ Pl.crcS (b.extract 0 c.size) ^^^ Pl.crcS (c.extract 0 c.size) := by
            unfold Pl.crcS
            rw [Pl.txt_data, HX, extract_take, extract_take, extract_take]
          have hcv : ∀ n, (convert 22 9 _).run Tryd.prog (wr.drewN n) = .ok (.string (Pl.txt (Pl.xors a.data.toList b.data.toList c.data.toList c.size))) (wr.drewN n) := fun n => conv_own (base := w.heap.size) (by rw [xl]; exact own_drewN hown n)
          rw [hfull] at hcX
          clear HX xl
          generalize Pl.txt (Pl.xors a.data.toList b.data.toList c.data.toList c.size) = X at *
          have z1 : (a.extract 0 c.size).size ≤ maxLen := by rw [ByteArray.size_extract]; unfold maxLen; omega
          have z2 : (b.extract 0 c.size).size ≤ maxLen := by rw [ByteArray.size_extract]; unfold maxLen; omega
          have zv : c.size ≤ maxLen := by unfold maxLen; omega
          have l1 : Pl.crcS (a.extract 0 c.size) < 4294967296 := Pl.crc_lt _
          have l2 : Pl.crcS (b.extract 0 c.size) < 4294967296 := Pl.crc_lt _
          have l3 : Pl.crcS c < 4294967296 := Pl.crc_lt _
          have x1 := Pl.i64_xor _ _ l1 l2
          have x2 := Pl.i64_xor _ _ (Pl.xor_lt l1 l2) l3
          rw [← hcX] at x2
          generalize Pl.crcS (a.extract 0 c.size) ^^^ Pl.crcS (b.extract 0 c.size) = p at *
          clear hcX
          have q0 : (0 : Int) ≤ (c.size : Int) := by omega
          have qa : (c.size : Int) ≤ (a.size : Int) := by omega
          have qb : (c.size : Int) ≤ (b.size : Int) := by omega
          have qc : (c.size : Int) ≤ (c.size : Int) := by omega
          have HTW : Hid (∀ n, Tab (wr.drewN n)) := fun n => Tab.below HT.out (Go.below_drewN hbl n)
          clear hown
          go_wp2_with fail
          go_quiet ((first | (go_at_call 4; exact Calls.quiet_of_same (sum_q _ _ (by first | exact zX | exact zv | exact z1 | exact z2) (HTW.out _))) | (go_at_call 5; exact Calls.quiet_of_same (nine_any _ (HTW.out _)))))
          go_wp2
          go_ret
          exact ⟨rfl, Go.below_drewN hbl _⟩
    · go_enter Tryd.func3, Tryd.ntmps3
      go_wp2
      go_loopw [8, 9] (fun r i wr => ∃ k : Nat, k ≤ b.size ∧ i = .int .i64 k ∧ wr.ownsRow w.heap.size 5 1 r k ((Pl.xors a.data.toList b.data.toList c.data.toList k).map fun b => Value.int .u8 (b.toNat : Int)) ∧ Below w.heap.size w wr) (fun _ i _ => b.size - (intOf i).toNat)
      case atStart => exact ⟨0, Nat.zero_le _, rfl, World.ownsRow_nil _ _ _ _, Below.refl _ _⟩
      case round =>
        obtain ⟨k, hk, rfl, hown, hbl⟩ := hrel
        have hsz := hbl.size
        by_cases hlt : k < b.size
        · have pa : k < a.size := by omega
          have pb : k < b.size := by omega
          have pc : k < c.size := by omega
          have HX : Hid (Pl.xors a.data.toList b.data.toList c.data.toList (k + 1) = Pl.xors a.data.toList b.data.toList c.data.toList k ++ [(a[k]'pa) ^^^ (b[k]'pb) ^^^ (c[k]'pc)]) := by
            show _ = _
            rw [Pl.xors_succ, getD_at a k pa, getD_at b k pb, getD_at c k pc]
          have x1 := u8_xor2 (a[k]'pa) (b[k]'pb)
          have x2 := u8_xor2 ((a[k]'pa) ^^^ (b[k]'pb)) (c[k]'pc)
          rw [UInt8.toNat_xor] at x2
          obtain ⟨z, hz⟩ : ∃ z, ((a[k]'pa) ^^^ (b[k]'pb)).toNat ^^^ (c[k]'pc).toNat = z := ⟨_, rfl⟩
          rw [UInt8.toNat_xor] at hz
          obtain ⟨y, hy⟩ : ∃ y, (a[k]'pa).toNat ^^^ (b[k]'pb).toNat = y := ⟨_, rfl⟩
          rw [hy] at x1 x2 hz
          rw [hz] at x2
          have HZ : Hid (((a[k]'pa) ^^^ (b[k]'pb) ^^^ (c[k]'pc)).toNat = z) := by show _ = _; rw [UInt8.toNat_xor, UInt8.toNat_xor, hy, hz]
          clear hy hz
          have q0 : (0 : Int) ≤ (k : Int) := by omega
          have qa : (k : Int) < (a.size : Int) := by omega
          have qb : (k : Int) < (b.size : Int) := by omega
          have qc : (k : Int) < (c.size : Int) := by omega
          generalize hXK : Pl.xors a.data.toList b.data.toList c.data.toList k = X at *
          clear hXK
          go_wp2_with fail
          go_region_held3 (fun _ => True) (trivial) ((refine step_append_lies _ (by rfl) _ _ _ (by rfl) w.heap.size 5 i0 (.int .u8 0) 1 1 Tryd.underlying22 hi hz0 hz1 hz2 rfl (by omega) _ k _ (by rfl) ((hown.alloc _).drew) ⟨wr.heap.size, 0, none⟩ 1 1 [.int .u8 (z : Int)] (by rfl) (by rfl) (World.news_of_block (cs := #[.int .u8 (z : Int)]) (t := 5) (fr := (0, 0)) (heap_alloc_new wr _)) (by simp [Value.oneCell']) (by omega) (by unfold maxLen; omega) (by omega) (by simp; omega) (wr.heap.size + 1) (by simp) ?_; intro gg cap w1 hown1 hgrow hat hlt1))
          all_goals go_wp2
          all_goals
            go_roundw
            case rel =>
              refine ⟨k + 1, by omega, by go_num, ?_, ((hbl.alloc hsz _).drew).grown hgrow (by simp; omega) (fun g hg => (hown.lt g hg).1)⟩
              rw [HX.out, List.map_append]
              simp only [List.map_cons, List.map_nil]
              rw [HZ.out]
              exact hown1
            case measure => simp [intOf]; omega
        · obtain rfl : k = b.size := by omega
          have hfull : b.extract 0 b.size = b := extract_full b
          have HX := Pl.crc_xors a.data.toList b.data.toList c.data.toList b.size (by first | (simp; done) | (simp; omega)) (by first | (simp; done) | (simp; omega)) (by first | (simp; done) | (simp; omega))
          have xl := Pl.xors_length a.data.toList b.data.toList c.data.toList b.size
          have zX : (Pl.txt (Pl.xors a.data.toList b.data.toList c.data.toList b.size)).size ≤ maxLen := by rw [Pl.txt_size, xl]; unfold maxLen; omega
          have hcX : Pl.crcS (Pl.txt (Pl.xors a.data.toList b.data.toList c.data.toList b.size)) = Pl.crcS (a.extract 0 b.size) ^^^ Pl.crcS (b.extract 0 b.size) ^^^ Pl.crcS (c.extract 0 b.size) := by
            unfold Pl.crcS
            rw [Pl.txt_data, HX, extract_take, extract_take, extract_take]
          have hcv : ∀ n, (convert 22 9 _).run Tryd.prog (wr.drewN n) = .ok (.string (Pl.txt (Pl.xors a.data.toList b.data.toList c.data.toList b.size))) (wr.drewN n) := fun n => conv_own (base := w.heap.size) (by rw [xl]; exact own_drewN hown n)
          rw [hfull] at hcX
          clear HX xl
          generalize Pl.txt (Pl.xors a.data.toList b.data.toList c.data.toList b.size) = X at *
          have z1 : (a.extract 0 b.size).size ≤ maxLen := by rw [ByteArray.size_extract]; unfold maxLen; omega
          have z2 : (c.extract 0 b.size).size ≤ maxLen := by rw [ByteArray.size_extract]; unfold maxLen; omega
          have zv : b.size ≤ maxLen := by unfold maxLen; omega
          have l1 : Pl.crcS (a.extract 0 b.size) < 4294967296 := Pl.crc_lt _
          have l2 : Pl.crcS b < 4294967296 := Pl.crc_lt _
          have l3 : Pl.crcS (c.extract 0 b.size) < 4294967296 := Pl.crc_lt _
          have x1 := Pl.i64_xor _ _ l1 l2
          have x2 := Pl.i64_xor _ _ (Pl.xor_lt l1 l2) l3
          rw [← hcX] at x2
          generalize Pl.crcS (a.extract 0 b.size) ^^^ Pl.crcS b = p at *
          clear hcX
          have q0 : (0 : Int) ≤ (b.size : Int) := by omega
          have qa : (b.size : Int) ≤ (a.size : Int) := by omega
          have qb : (b.size : Int) ≤ (b.size : Int) := by omega
          have qc : (b.size : Int) ≤ (c.size : Int) := by omega
          have HTW : Hid (∀ n, Tab (wr.drewN n)) := fun n => Tab.below HT.out (Go.below_drewN hbl n)
          clear hown
          go_wp2_with fail
          go_quiet ((first | (go_at_call 4; exact Calls.quiet_of_same (sum_q _ _ (by first | exact zX | exact zv | exact z1 | exact z2) (HTW.out _))) | (go_at_call 5; exact Calls.quiet_of_same (nine_any _ (HTW.out _)))))
          go_wp2
          go_ret
          exact ⟨rfl, Go.below_drewN hbl _⟩
  · by_cases h2 : c.size < a.size
    · go_enter Tryd.func3, Tryd.ntmps3
      go_wp2
      go_loopw [8, 9] (fun r i wr => ∃ k : Nat, k ≤ c.size ∧ i = .int .i64 k ∧ wr.ownsRow w.heap.size 5 1 r k ((Pl.xors a.data.toList b.data.toList c.data.toList k).map fun b => Value.int .u8 (b.toNat : Int)) ∧ Below w.heap.size w wr) (fun _ i _ => c.size - (intOf i).toNat)
      case atStart => exact ⟨0, Nat.zero_le _, rfl, World.ownsRow_nil _ _ _ _, Below.refl _ _⟩
      case round =>
        obtain ⟨k, hk, rfl, hown, hbl⟩ := hrel
        have hsz := hbl.size
        by_cases hlt : k < c.size
        · have pa : k < a.size := by omega
          have pb : k < b.size := by omega
          have pc : k < c.size := by omega
          have HX : Hid (Pl.xors a.data.toList b.data.toList c.data.toList (k + 1) = Pl.xors a.data.toList b.data.toList c.data.toList k ++ [(a[k]'pa) ^^^ (b[k]'pb) ^^^ (c[k]'pc)]) := by
            show _ = _
            rw [Pl.xors_succ, getD_at a k pa, getD_at b k pb, getD_at c k pc]
          have x1 := u8_xor2 (a[k]'pa) (b[k]'pb)
          have x2 := u8_xor2 ((a[k]'pa) ^^^ (b[k]'pb)) (c[k]'pc)
          rw [UInt8.toNat_xor] at x2
          obtain ⟨z, hz⟩ : ∃ z, ((a[k]'pa) ^^^ (b[k]'pb)).toNat ^^^ (c[k]'pc).toNat = z := ⟨_, rfl⟩
          rw [UInt8.toNat_xor] at hz
          obtain ⟨y, hy⟩ : ∃ y, (a[k]'pa).toNat ^^^ (b[k]'pb).toNat = y := ⟨_, rfl⟩
          rw [hy] at x1 x2 hz
          rw [hz] at x2
          have HZ : Hid (((a[k]'pa) ^^^ (b[k]'pb) ^^^ (c[k]'pc)).toNat = z) := by show _ = _; rw [UInt8.toNat_xor, UInt8.toNat_xor, hy, hz]
          clear hy hz
          have q0 : (0 : Int) ≤ (k : Int) := by omega
          have qa : (k : Int) < (a.size : Int) := by omega
          have qb : (k : Int) < (b.size : Int) := by omega
          have qc : (k : Int) < (c.size : Int) := by omega
          generalize hXK : Pl.xors a.data.toList b.data.toList c.data.toList k = X at *
          clear hXK
          go_wp2_with fail
          go_region_held3 (fun _ => True) (trivial) ((refine step_append_lies _ (by rfl) _ _ _ (by rfl) w.heap.size 5 i0 (.int .u8 0) 1 1 Tryd.underlying22 hi hz0 hz1 hz2 rfl (by omega) _ k _ (by rfl) ((hown.alloc _).drew) ⟨wr.heap.size, 0, none⟩ 1 1 [.int .u8 (z : Int)] (by rfl) (by rfl) (World.news_of_block (cs := #[.int .u8 (z : Int)]) (t := 5) (fr := (0, 0)) (heap_alloc_new wr _)) (by simp [Value.oneCell']) (by omega) (by unfold maxLen; omega) (by omega) (by simp; omega) (wr.heap.size + 1) (by simp) ?_; intro gg cap w1 hown1 hgrow hat hlt1))
          all_goals go_wp2
          all_goals
            go_roundw
            case rel =>
              refine ⟨k + 1, by omega, by go_num, ?_, ((hbl.alloc hsz _).drew).grown hgrow (by simp; omega) (fun g hg => (hown.lt g hg).1)⟩
              rw [HX.out, List.map_append]
              simp only [List.map_cons, List.map_nil]
              rw [HZ.out]
              exact hown1
            case measure => simp [intOf]; omega
        · obtain rfl : k = c.size := by omega
          have hfull : c.extract 0 c.size = c := extract_full c
          have HX := Pl.crc_xors a.data.toList b.data.toList c.data.toList c.size (by first | (simp; done) | (simp; omega)) (by first | (simp; done) | (simp; omega)) (by first | (simp; done) | (simp; omega))
          have xl := Pl.xors_length a.data.toList b.data.toList c.data.toList c.size
          have zX : (Pl.txt (Pl.xors a.data.toList b.data.toList c.data.toList c.size)).size ≤ maxLen := by rw [Pl.txt_size, xl]; unfold maxLen; omega
          have hcX : Pl.crcS (Pl.txt (Pl.xors a.data.toList b.data.toList c.data.toList c.size)) = Pl.crcS (a.extract 0 c.size) ^^^ Pl.crcS (b.extract 0 c.size) ^^^ Pl.crcS (c.extract 0 c.size) := by
            unfold Pl.crcS
            rw [Pl.txt_data, HX, extract_take, extract_take, extract_take]
          have hcv : ∀ n, (convert 22 9 _).run Tryd.prog (wr.drewN n) = .ok (.string (Pl.txt (Pl.xors a.data.toList b.data.toList c.data.toList c.size))) (wr.drewN n) := fun n => conv_own (base := w.heap.size) (by rw [xl]; exact own_drewN hown n)
          rw [hfull] at hcX
          clear HX xl
          generalize Pl.txt (Pl.xors a.data.toList b.data.toList c.data.toList c.size) = X at *
          have z1 : (a.extract 0 c.size).size ≤ maxLen := by rw [ByteArray.size_extract]; unfold maxLen; omega
          have z2 : (b.extract 0 c.size).size ≤ maxLen := by rw [ByteArray.size_extract]; unfold maxLen; omega
          have zv : c.size ≤ maxLen := by unfold maxLen; omega
          have l1 : Pl.crcS (a.extract 0 c.size) < 4294967296 := Pl.crc_lt _
          have l2 : Pl.crcS (b.extract 0 c.size) < 4294967296 := Pl.crc_lt _
          have l3 : Pl.crcS c < 4294967296 := Pl.crc_lt _
          have x1 := Pl.i64_xor _ _ l1 l2
          have x2 := Pl.i64_xor _ _ (Pl.xor_lt l1 l2) l3
          rw [← hcX] at x2
          generalize Pl.crcS (a.extract 0 c.size) ^^^ Pl.crcS (b.extract 0 c.size) = p at *
          clear hcX
          have q0 : (0 : Int) ≤ (c.size : Int) := by omega
          have qa : (c.size : Int) ≤ (a.size : Int) := by omega
          have qb : (c.size : Int) ≤ (b.size : Int) := by omega
          have qc : (c.size : Int) ≤ (c.size : Int) := by omega
          have HTW : Hid (∀ n, Tab (wr.drewN n)) := fun n => Tab.below HT.out (Go.below_drewN hbl n)
          clear hown
          go_wp2_with fail
          go_quiet ((first | (go_at_call 4; exact Calls.quiet_of_same (sum_q _ _ (by first | exact zX | exact zv | exact z1 | exact z2) (HTW.out _))) | (go_at_call 5; exact Calls.quiet_of_same (nine_any _ (HTW.out _)))))
          go_wp2
          go_ret
          exact ⟨rfl, Go.below_drewN hbl _⟩
    · go_enter Tryd.func3, Tryd.ntmps3
      go_wp2
      go_loopw [8, 9] (fun r i wr => ∃ k : Nat, k ≤ a.size ∧ i = .int .i64 k ∧ wr.ownsRow w.heap.size 5 1 r k ((Pl.xors a.data.toList b.data.toList c.data.toList k).map fun b => Value.int .u8 (b.toNat : Int)) ∧ Below w.heap.size w wr) (fun _ i _ => a.size - (intOf i).toNat)
      case atStart => exact ⟨0, Nat.zero_le _, rfl, World.ownsRow_nil _ _ _ _, Below.refl _ _⟩
      case round =>
        obtain ⟨k, hk, rfl, hown, hbl⟩ := hrel
        have hsz := hbl.size
        by_cases hlt : k < a.size
        · have pa : k < a.size := by omega
          have pb : k < b.size := by omega
          have pc : k < c.size := by omega
          have HX : Hid (Pl.xors a.data.toList b.data.toList c.data.toList (k + 1) = Pl.xors a.data.toList b.data.toList c.data.toList k ++ [(a[k]'pa) ^^^ (b[k]'pb) ^^^ (c[k]'pc)]) := by
            show _ = _
            rw [Pl.xors_succ, getD_at a k pa, getD_at b k pb, getD_at c k pc]
          have x1 := u8_xor2 (a[k]'pa) (b[k]'pb)
          have x2 := u8_xor2 ((a[k]'pa) ^^^ (b[k]'pb)) (c[k]'pc)
          rw [UInt8.toNat_xor] at x2
          obtain ⟨z, hz⟩ : ∃ z, ((a[k]'pa) ^^^ (b[k]'pb)).toNat ^^^ (c[k]'pc).toNat = z := ⟨_, rfl⟩
          rw [UInt8.toNat_xor] at hz
          obtain ⟨y, hy⟩ : ∃ y, (a[k]'pa).toNat ^^^ (b[k]'pb).toNat = y := ⟨_, rfl⟩
          rw [hy] at x1 x2 hz
          rw [hz] at x2
          have HZ : Hid (((a[k]'pa) ^^^ (b[k]'pb) ^^^ (c[k]'pc)).toNat = z) := by show _ = _; rw [UInt8.toNat_xor, UInt8.toNat_xor, hy, hz]
          clear hy hz
          have q0 : (0 : Int) ≤ (k : Int) := by omega
          have qa : (k : Int) < (a.size : Int) := by omega
          have qb : (k : Int) < (b.size : Int) := by omega
          have qc : (k : Int) < (c.size : Int) := by omega
          generalize hXK : Pl.xors a.data.toList b.data.toList c.data.toList k = X at *
          clear hXK
          go_wp2_with fail
          go_region_held3 (fun _ => True) (trivial) ((refine step_append_lies _ (by rfl) _ _ _ (by rfl) w.heap.size 5 i0 (.int .u8 0) 1 1 Tryd.underlying22 hi hz0 hz1 hz2 rfl (by omega) _ k _ (by rfl) ((hown.alloc _).drew) ⟨wr.heap.size, 0, none⟩ 1 1 [.int .u8 (z : Int)] (by rfl) (by rfl) (World.news_of_block (cs := #[.int .u8 (z : Int)]) (t := 5) (fr := (0, 0)) (heap_alloc_new wr _)) (by simp [Value.oneCell']) (by omega) (by unfold maxLen; omega) (by omega) (by simp; omega) (wr.heap.size + 1) (by simp) ?_; intro gg cap w1 hown1 hgrow hat hlt1))
          all_goals go_wp2
          all_goals
            go_roundw
            case rel =>
              refine ⟨k + 1, by omega, by go_num, ?_, ((hbl.alloc hsz _).drew).grown hgrow (by simp; omega) (fun g hg => (hown.lt g hg).1)⟩
              rw [HX.out, List.map_append]
              simp only [List.map_cons, List.map_nil]
              rw [HZ.out]
              exact hown1
            case measure => simp [intOf]; omega
        · obtain rfl : k = a.size := by omega
          have hfull : a.extract 0 a.size = a := extract_full a
          have HX := Pl.crc_xors a.data.toList b.data.toList c.data.toList a.size (by first | (simp; done) | (simp; omega)) (by first | (simp; done) | (simp; omega)) (by first | (simp; done) | (simp; omega))
          have xl := Pl.xors_length a.data.toList b.data.toList c.data.toList a.size
          have zX : (Pl.txt (Pl.xors a.data.toList b.data.toList c.data.toList a.size)).size ≤ maxLen := by rw [Pl.txt_size, xl]; unfold maxLen; omega
          have hcX : Pl.crcS (Pl.txt (Pl.xors a.data.toList b.data.toList c.data.toList a.size)) = Pl.crcS (a.extract 0 a.size) ^^^ Pl.crcS (b.extract 0 a.size) ^^^ Pl.crcS (c.extract 0 a.size) := by
            unfold Pl.crcS
            rw [Pl.txt_data, HX, extract_take, extract_take, extract_take]
          have hcv : ∀ n, (convert 22 9 _).run Tryd.prog (wr.drewN n) = .ok (.string (Pl.txt (Pl.xors a.data.toList b.data.toList c.data.toList a.size))) (wr.drewN n) := fun n => conv_own (base := w.heap.size) (by rw [xl]; exact own_drewN hown n)
          rw [hfull] at hcX
          clear HX xl
          generalize Pl.txt (Pl.xors a.data.toList b.data.toList c.data.toList a.size) = X at *
          have z1 : (b.extract 0 a.size).size ≤ maxLen := by rw [ByteArray.size_extract]; unfold maxLen; omega
          have z2 : (c.extract 0 a.size).size ≤ maxLen := by rw [ByteArray.size_extract]; unfold maxLen; omega
          have zv : a.size ≤ maxLen := by unfold maxLen; omega
          have l1 : Pl.crcS a < 4294967296 := Pl.crc_lt _
          have l2 : Pl.crcS (b.extract 0 a.size) < 4294967296 := Pl.crc_lt _
          have l3 : Pl.crcS (c.extract 0 a.size) < 4294967296 := Pl.crc_lt _
          have x1 := Pl.i64_xor _ _ l1 l2
          have x2 := Pl.i64_xor _ _ (Pl.xor_lt l1 l2) l3
          rw [← hcX] at x2
          generalize Pl.crcS a ^^^ Pl.crcS (b.extract 0 a.size) = p at *
          clear hcX
          have q0 : (0 : Int) ≤ (a.size : Int) := by omega
          have qa : (a.size : Int) ≤ (a.size : Int) := by omega
          have qb : (a.size : Int) ≤ (b.size : Int) := by omega
          have qc : (a.size : Int) ≤ (c.size : Int) := by omega
          have HTW : Hid (∀ n, Tab (wr.drewN n)) := fun n => Tab.below HT.out (Go.below_drewN hbl n)
          clear hown
          go_wp2_with fail
          go_quiet ((first | (go_at_call 4; exact Calls.quiet_of_same (sum_q _ _ (by first | exact zX | exact zv | exact z1 | exact z2) (HTW.out _))) | (go_at_call 5; exact Calls.quiet_of_same (nine_any _ (HTW.out _)))))
          go_wp2
          go_ret
          exact ⟨rfl, Go.below_drewN hbl _⟩
end Go.Proofs.YtdgainpbaphniacDoor
