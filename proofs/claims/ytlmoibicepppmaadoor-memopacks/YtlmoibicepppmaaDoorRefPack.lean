/-
  What the document's Pack answers, in whatever world, of fields whose bytes are not too many: by its walk.
-/
import Derived.Test.YtlmoibicepppmaaDoorNum
import Derived.Test.YtlmoibicepppmaaDoorFields
import Derived.Test.YtlmoibicepppmaaDoorPlainP
import Derived.Test.YtlmoibicepppmaaDoorPlainB
import Derived.BigQuiet
import Derived.Deep.QuietTactic
import Derived.Deep.RegionHeld3
namespace Go.Proofs.YtlmoibicepppmaaDoor
open Go.ChangeShapes Go.WideShapes Go.ChangeAt Go.RowKit Go.Deep
set_option maxRecDepth 100000

def Pl.u8 (n : Int) : UInt8 := UInt8.ofNat (n % 256).toNat
theorem Pl.txt_step (E : List UInt8) (t : Int) (s : ByteArray) (h1 : 1 ≤ t) (h2 : t ≤ 255) (h3 : s.size ≤ 65535) :
    Pl.txt E ++ Pl.txt [Pl.u8 t] ++ Pl.txt [Pl.u8 ((s.size : Int) / 256)] ++ Pl.txt [Pl.u8 ((s.size : Int) % 256)] ++ s = Pl.txt (E ++ Pl.encOne (t, s)) := by
  have e1 : (t % 256).toNat = t.toNat := by omega
  have e2 : ((s.size : Int) / 256 % 256).toNat = s.size / 256 := by omega
  have e3 : ((s.size : Int) % 256 % 256).toNat = s.size % 256 := by omega
  have hs : s = Pl.txt s.data.toList := (Pl.txt_toList s).symm
  simp only [Pl.u8, e1, e2, e3, Pl.encOne]
  rw [Pl.txt_append, Pl.txt_append, Pl.txt_append]
  have := Pl.txt_append (E ++ [UInt8.ofNat t.toNat] ++ [UInt8.ofNat (s.size / 256)] ++ [UInt8.ofNat (s.size % 256)]) s.data.toList
  rw [← hs] at this
  rw [this]
  simp
theorem byte_u8 (n : Int) (w : World) : Calls Tryd.prog 44 #[.int .i64 n] w fun e w' => e = .returned (.string (Pl.txt [Pl.u8 n])) ∧ Below w.heap.size w w' := byte_any n w

theorem held_step {w w1 w2 : World} {b : Nat} {x y : Value} (h : w1.cell? ⟨b, 0, none⟩ = some x ∧ w1.cell? ⟨b, 1, none⟩ = some y ∧ Below w.heap.size w w1 ∧ b < w1.heap.size) (hb : Below w1.heap.size w1 w2) :
    w2.cell? ⟨b, 0, none⟩ = some x ∧ w2.cell? ⟨b, 1, none⟩ = some y ∧ Below w.heap.size w w2 ∧ b < w2.heap.size := by
  refine ⟨?_, ?_, h.2.2.1.trans (hb.mono h.2.2.1.size), Nat.lt_of_lt_of_le h.2.2.2 hb.size⟩
  · rw [hb.cell (p := ⟨b, 0, none⟩) h.2.2.2]; exact h.1
  · rw [hb.cell (p := ⟨b, 1, none⟩) h.2.2.2]; exact h.2.1

theorem held_start {w wr : World} (hbl : Below w.heap.size w wr) (x y : Value) (T : TypeId) (nq : Nat) :
    ((wr.alloc (.cells #[x, y] T)).drewN nq).drew.cell? ⟨wr.heap.size, 0, none⟩ = some x ∧ ((wr.alloc (.cells #[x, y] T)).drewN nq).drew.cell? ⟨wr.heap.size, 1, none⟩ = some y ∧
      Below w.heap.size w ((wr.alloc (.cells #[x, y] T)).drewN nq).drew ∧ wr.heap.size < ((wr.alloc (.cells #[x, y] T)).drewN nq).drew.heap.size :=
  ⟨by simp, by simp, (Go.below_drewN (hbl.alloc hbl.size _) nq).drew, by simp⟩

set_option maxRecDepth 100000 in
set_option maxHeartbeats 2000000 in
theorem refPack_any (v : Value) (l : List (Int × ByteArray)) (w : World) (hv : FieldsAt w.heap.size w v l) (hE : (Pl.encs l).length ≤ 1099511627776) :
    Calls Tryd.prog 21 #[v] w fun e w' => e = .returned (.tuple #[.string (Pl.packOut l), .int .i64 (Pl.packErr 1 l)]) ∧ Below w.heap.size w w' := by
  rcases hv with ⟨ao, cap, rfl, rfl⟩ | ⟨b, off, cap, rfl, hB, hp, hlc, hm, hx⟩
  · go_enter Tryd.func21, Tryd.ntmps21
    go_wp2
    refine wp_loop_rounds 1 ?_
    rw [rounds_succ]
    go_wp2
    go_ret2
    exact ⟨rfl, Below.refl _ _⟩
  · unfold maxLen at hm
    obtain ⟨n, hn⟩ : ∃ n, l.length = n := ⟨_, rfl⟩
    rw [hn] at hp hlc hx ⊢
    have HN : Hid (l.length = n) := hn
    have HX : Hid (∀ i, i < n → w.cell? ⟨b, off + i * 2, none⟩ = some (.int .i64 (l.getD i (0, .empty)).1) ∧ w.cell? ⟨b, off + i * 2 + 1, none⟩ = some (.string (l.getD i (0, .empty)).2)) := hx
    have HE : Hid (∀ k, (Pl.encs (l.take k)).length ≤ 1099511627776) := fun k => Nat.le_trans (Pl.encs_take_le l k) hE
    clear hn hx hE
    go_enter Tryd.func21, Tryd.ntmps21
    go_wp2
    go_loopw [4, 9] (fun r i wr => ∃ k : Nat, k ≤ n ∧ i = .int .i64 k ∧ Pl.okTo 1 l k ∧ r = .string (Pl.txt (Pl.encs (l.take k))) ∧ Below w.heap.size w wr) (fun _ i _ => n - (intOf i).toNat)
    case atStart => exact ⟨0, Nat.zero_le _, rfl, fun i hi => absurd hi (Nat.not_lt_zero _), rfl, Below.refl _ _⟩
    case round =>
      obtain ⟨k, hk, rfl, hok, rfl, hbl⟩ := hrel
      have HOK : Hid (Pl.okTo 1 l k) := hok
      clear hok
      have hsz := hbl.size
      by_cases hlt : k < n
      · obtain ⟨c0, c1⟩ := HX.out k hlt
        rw [← hbl.cell (p := ⟨b, off + k * 2, none⟩) hB] at c0
        rw [← hbl.cell (p := ⟨b, off + k * 2 + 1, none⟩) hB] at c1
        generalize hf : l.getD k (0, .empty) = f at *
        have HF : Hid (l.getD k (0, .empty) = f) := hf
        clear hf
        obtain ⟨t, s⟩ := f
        by_cases h1 : t < 1
        · have H : Hid (Pl.packOut l = Pl.txt [] ∧ Pl.packErr 1 l = 1) := Pl.pack_bad (by rw [HN.out]; exact hlt) HOK.out rfl HF.out (by simp [Pl.badAt, h1]) (by decide)
          go_wp2
          go_ret2
          rw [H.out.1, H.out.2]
          exact ⟨rfl, hbl.alloc hsz _⟩
        by_cases h2 : 255 < t
        · have H : Hid (Pl.packOut l = Pl.txt [] ∧ Pl.packErr 1 l = 1) := Pl.pack_bad (by rw [HN.out]; exact hlt) HOK.out rfl HF.out (by simp [Pl.badAt, h2]) (by decide)
          go_wp2
          go_ret2
          rw [H.out.1, H.out.2]
          exact ⟨rfl, hbl.alloc hsz _⟩
        by_cases h3 : 65535 < s.size
        · have H : Hid (Pl.packOut l = Pl.txt [] ∧ Pl.packErr 1 l = 2) := Pl.pack_bad (by rw [HN.out]; exact hlt) HOK.out rfl HF.out (by simp [Pl.badAt, h1, h2, h3]) (by decide)
          go_wp2
          go_ret2
          rw [H.out.1, H.out.2]
          exact ⟨rfl, hbl.alloc hsz _⟩
        have hs3 : (s.size : Int) ≤ 65535 := by omega
        have HEN : Hid (Pl.encs (l.take (k + 1)) = Pl.encs (l.take k) ++ Pl.encOne (t, s)) := Pl.encs_take_succ (by rw [HN.out]; exact hlt) HF.out
        have hE1 := HE.out k
        generalize Pl.encs (l.take k) = E at *
        have hw1 : IntKind.i64.wrap ((s.size : Int) / 256) = (s.size : Int) / 256 := by
          have := Pl.wrap_i64_small (s.size / 256) (by omega)
          simpa using this
        have hw2 : (s.size : Int).tmod 256 = (s.size : Int) % 256 := Int.tmod_eq_emod_of_nonneg (by omega)
        have hq1 : ¬ 9223372036854775807 < (Pl.txt E).size + (Pl.txt [Pl.u8 t]).size := by simp only [Pl.txt_size, List.length_cons, List.length_nil]; omega
        have hq2 : ¬ 9223372036854775807 < (Pl.txt E).size + (Pl.txt [Pl.u8 t]).size + (Pl.txt [Pl.u8 ((s.size : Int) / 256)]).size := by simp only [Pl.txt_size, List.length_cons, List.length_nil]; omega
        have hq3 : ¬ 9223372036854775807 < (Pl.txt E).size + (Pl.txt [Pl.u8 t]).size + (Pl.txt [Pl.u8 ((s.size : Int) / 256)]).size + (Pl.txt [Pl.u8 ((s.size : Int) % 256)]).size := by simp only [Pl.txt_size, List.length_cons, List.length_nil]; omega
        have hq4 : ¬ 9223372036854775807 < (Pl.txt E).size + (Pl.txt [Pl.u8 t]).size + (Pl.txt [Pl.u8 ((s.size : Int) / 256)]).size + (Pl.txt [Pl.u8 ((s.size : Int) % 256)]).size + s.size := by simp only [Pl.txt_size, List.length_cons, List.length_nil]; omega
        have HTX : Hid (Pl.txt E ++ Pl.txt [Pl.u8 t] ++ Pl.txt [Pl.u8 ((s.size : Int) / 256)] ++ Pl.txt [Pl.u8 ((s.size : Int) % 256)] ++ s = Pl.txt (E ++ Pl.encOne (t, s))) := Pl.txt_step E t s (by omega) (by omega) (by omega)
        by_cases hk0 : k = 0
        · have HB : Hid (Pl.okTo 1 l (k + 1)) := Pl.okTo_succ HOK.out (by rw [HF.out]; simp [Pl.badAt, h1, h2, h3, Pl.lastAt, hk0])
          have hg : decide (0 < k) = false := by simp [hk0]
          clear hk0
          go_wp2
          go_quiet (fail)
          go_wp2
          go_region_held3 (fun w' => w'.cell? ⟨wr.heap.size, 0, none⟩ = some (.int .i64 t) ∧ w'.cell? ⟨wr.heap.size, 1, none⟩ = some (.string s) ∧ Below w.heap.size w w' ∧ wr.heap.size < w'.heap.size) (first | exact held_start hbl _ _ _ _ | exact held_step (by assumption) (by assumption) | go_keep) (first | (go_at_call 44; refine (byte_u8 _ _).mono ?_; rintro e w2 ⟨rfl, hb2⟩))
          go_wp2
          go_roundw
          case rel =>
            have hS : w2.cell? ⟨wr.heap.size, 0, none⟩ = some (.int .i64 t) ∧ w2.cell? ⟨wr.heap.size, 1, none⟩ = some (.string s) ∧ Below w.heap.size w w2 ∧ wr.heap.size < w2.heap.size := by assumption
            refine ⟨k + 1, by omega, by go_num, HB.out, ?_, hS.2.2.1⟩
            rw [HEN.out, HTX.out]
          case measure => simp [intOf]; omega
        · obtain ⟨j, rfl⟩ : ∃ j, k = j + 1 := ⟨k - 1, by omega⟩
          have hg : decide (0 < j + 1) = true := by simp
          obtain ⟨c2, _⟩ := HX.out j (by omega)
          generalize hla : (l.getD j (0, .empty)).1 = la at *
          have HLA : Hid (Pl.lastAt 1 l (j + 1) = la) := (Pl.lastAt_succ (x := l.getD j (0, .empty)) rfl).trans hla
          clear hla
          rw [← (hbl.alloc hsz (.cells #[.int .i64 t, .string s] 57)).cell (p := ⟨b, off + j * 2, none⟩) hB] at c2
          have hj0 : (j : Int) < (n : Int) := by omega
          by_cases h4 : t < la
          · have H : Hid (Pl.packOut l = Pl.txt [] ∧ Pl.packErr 1 l = 11) := Pl.pack_bad (by rw [HN.out]; exact hlt) HOK.out HLA.out HF.out (by simp [Pl.badAt, h1, h2, h3, h4]) (by decide)
            go_wp2
            go_quiet (fail)
            go_wp2
            go_ret2
            rw [H.out.1, H.out.2]
            exact ⟨rfl, Go.below_drewN (hbl.alloc hsz _) _⟩
          · have HB : Hid (Pl.okTo 1 l (j + 1 + 1)) := Pl.okTo_succ HOK.out (by rw [HF.out, HLA.out]; simp [Pl.badAt, h1, h2, h3, h4])
            go_wp2
            go_quiet (fail)
            go_wp2
            go_region_held3 (fun w' => w'.cell? ⟨wr.heap.size, 0, none⟩ = some (.int .i64 t) ∧ w'.cell? ⟨wr.heap.size, 1, none⟩ = some (.string s) ∧ Below w.heap.size w w' ∧ wr.heap.size < w'.heap.size) (first | exact held_start hbl _ _ _ _ | exact held_step (by assumption) (by assumption) | go_keep) (first | (go_at_call 44; refine (byte_u8 _ _).mono ?_; rintro e w2 ⟨rfl, hb2⟩))
            go_wp2
            go_roundw
            case rel =>
              have hS : w2.cell? ⟨wr.heap.size, 0, none⟩ = some (.int .i64 t) ∧ w2.cell? ⟨wr.heap.size, 1, none⟩ = some (.string s) ∧ Below w.heap.size w w2 ∧ wr.heap.size < w2.heap.size := by assumption
              refine ⟨j + 1 + 1, by omega, by go_num, HB.out, ?_, hS.2.2.1⟩
              rw [HEN.out, HTX.out]
            case measure => simp [intOf]; omega
      · obtain rfl : k = n := by omega
        have H : Hid (Pl.packOut l = Pl.txt (Pl.encs l) ∧ Pl.packErr 1 l = 0) := Pl.pack_fine (by rw [HN.out]; exact HOK.out)
        rw [List.take_of_length_le (by rw [HN.out]; exact Nat.le_refl _)]
        go_wp2
        go_ret2
        rw [H.out.1, H.out.2]
        exact ⟨rfl, hbl⟩
end Go.Proofs.YtlmoibicepppmaaDoor
