/-
  post: Flip: one bit of one letter's body is turned.
-/
import Derived.Test.YtlhobncpifklkaaPTwice
import Derived.Laws.IdiomStrings
import Derived.BigRegion
import Derived.Laws.BitsAllLaws
namespace Go.Proofs.Ytlhobncpifklkaa
open Go.RowKit

namespace Po
/-- The body with one bit turned. -/
def flipAt (b : ByteArray) (t : Nat) : ByteArray := ⟨b.data.modify (t / 8) (fun y => y ^^^ UInt8.ofNat (2 ^ (t % 8)))⟩
theorem flip_size (b : ByteArray) (t : Nat) : (flipAt b t).size = b.size := by
  show (b.data.modify _ _).size = b.data.size
  simp
abbrev bitOf (b : ByteArray) (bit : Int) : Prop := 0 ≤ bit ∧ bit < 8 * (b.size : Int)
def flipErr (ls : List Lt) (n bit : Int) : Int := match get ls n with
  | none => 6
  | some x => if bitOf x.2.2.2 bit then 0 else 1
def flipTo (ls : List Lt) (n bit : Int) : List Lt := match get ls n with
  | none => ls
  | some x => if bitOf x.2.2.2 bit then put ls n (flipAt x.2.2.2 bit.toNat) else ls
end Po

theorem flip_none {s : Nat} {nodes last : Int} {v : Value} {ls : List Po.Lt} (n bit : Int) (w : World) (h : PostAt w s nodes last v ls) (hg : Po.get ls n = none) : Calls Try.prog 40 #[.pointer (some ⟨s, 0, none⟩), .int .i64 n, .int .i64 bit] w fun e w' => e = .returned (.int .i64 6) ∧ w.grownBy w' none := by
  have HP : Hid (PostAt w s nodes last v ls) := h
  have HN : Hid (Po.get ls n = none) := hg
  clear h hg
  go_enter Try.func40, Try.ntmps40
  go_wp2_with fail
  refine (find_any n _ HP.out).mono ?_
  rintro e w1 ⟨rfl, hg⟩
  rw [HN.out]
  have HG : Hid (w.grownBy w1 none) := hg
  clear hg
  go_wp2
  go_ret
  exact ⟨rfl, HG.out⟩

/-- What []byte(s) lays. -/
theorem bytes_laid (w : World) (s : ByteArray) : ∃ W cp, (convert 9 103 (.string s)).run Try.prog w = .ok (.slice (some ⟨w.heap.size, 0, none⟩) s.size cp) W ∧ w.grownBy W none ∧ W.heap.size = w.heap.size + 1 ∧
    ∀ j (hj : j < s.size), W.cell? ⟨w.heap.size, j, none⟩ = some (.int .u8 ((s.data[j]'hj).toNat : Int)) ∧ W.frozen? ⟨w.heap.size, j, none⟩ = false := by
  refine ⟨_, _, run_bytes_of_string w 9 103 5 s Try.underlying9 Try.underlying103 Try.underlying5, ?_, by simp, fun j hj => ?_⟩
  · have := World.grownBy_alloc w.drew (.cells (bytesRow s (grownCap w s.size 0 5)) 5 ((bytesRow s (grownCap w s.size 0 5)).size, (bytesRow s (grownCap w s.size 0 5)).size + 1)) none
    exact ⟨this.os, this.tape, this.output, this.size, this.block⟩
  · have hb := heap_alloc_new w.drew (.cells (bytesRow s (grownCap w s.size 0 5)) 5 ((bytesRow s (grownCap w s.size 0 5)).size, (bytesRow s (grownCap w s.size 0 5)).size + 1))
    have hsz : s.data.size = s.size := rfl
    constructor
    · simp only [World.cell?, show w.drew.heap.size = w.heap.size from rfl] at hb ⊢
      rw [hb]
      have hj' : j < s.data.size := hj
      simp [bytesRow, Array.getElem?_append]
      rw [if_pos hj, Array.getElem?_eq_getElem hj']
      rfl
    · simp only [World.frozen?, show w.drew.heap.size = w.heap.size from rfl] at hb ⊢
      rw [hb]
      simp [bytesRow]
      omega

set_option maxHeartbeats 1000000 in
set_option maxRecDepth 100000 in
theorem flip_arg {s : Nat} {nodes last : Int} {v : Value} {ls : List Po.Lt} {x : Po.Lt} (n bit : Int) (w : World) (h : PostAt w s nodes last v ls) (hg : Po.get ls n = some x) (hbit : ¬ Po.bitOf x.2.2.2 bit) : Calls Try.prog 40 #[.pointer (some ⟨s, 0, none⟩), .int .i64 n, .int .i64 bit] w fun e w' => e = .returned (.int .i64 1) ∧ w.grownBy w' none := by
  have HP : Hid (PostAt w s nodes last v ls) := h
  obtain ⟨hlt, hgd⟩ := Po.pos_get h.good.sorted hg
  have hshort := h.good.short x (Po.get_mem hg).1
  have HN : Hid ((Po.get ls n).isSome = true) := by rw [hg]; exact rfl
  clear hg
  rcases h.row.2 with ⟨_, h0⟩ | ⟨g, cap, cur, rfl, _⟩
  · omega
  clear h
  go_enter Try.func40, Try.ntmps40
  go_wp2_with fail
  refine (find_any n _ HP.out).mono ?_
  rintro e w2 ⟨rfl, hg⟩
  rw [HN.out]
  have hp2 := HP.out.still hg
  obtain ⟨_, _, c2⟩ := hp2.cells
  obtain ⟨_, _, _, r3⟩ := row_at hp2.row hlt
  rw [hgd] at r3
  obtain ⟨W, cp, hcv, hgW, hWs, _⟩ := bytes_laid w2 x.2.2.2
  have HG : Hid (w.grownBy W none) := grown_trans hg hgW
  generalize Po.pos ls n = k at *
  obtain ⟨m, hm⟩ : ∃ m, ls.length = m := ⟨_, rfl⟩
  rw [hm] at hlt c2
  have hkI : (k : Int) < (m : Int) := by omega
  obtain ⟨x0, x1, x2, x3⟩ := x
  simp only at r3 hshort hcv hbit
  have hs8 : (x3.size : Int) ≤ 65535 := by omega
  clear hg hp2 hm hgW hWs hgd
  by_cases hb0 : bit < 0
  · clear hbit
    go_wp2
    go_ret
    exact ⟨rfl, HG.out⟩
  · have hb8 : 8 * (x3.size : Int) ≤ bit := by
      simp only [Po.bitOf] at hbit
      omega
    clear hbit
    go_wp2
    go_ret
    exact ⟨rfl, HG.out⟩

theorem xor_pow (y : UInt8) {r : Nat} (h : r < 8) : bits .xor .u8 (y.toNat : Int) ((2 : Int) ^ r % 256) = ((y ^^^ UInt8.ofNat (2 ^ r)).toNat : Int) := by
  have h1 : 2 ^ r < 256 := Nat.pow_lt_pow_right (by decide : 1 < 2) h
  have h2 : (UInt8.ofNat (2 ^ r)).toNat = 2 ^ r := by
    rw [UInt8.toNat_ofNat']
    exact Nat.mod_eq_of_lt h1
  have h3 : (2 : Int) ^ r % 256 = ((2 ^ r : Nat) : Int) := by
    rw [Int.natCast_pow]
    have : ((2 ^ r : Nat) : Int) < ((256 : Nat) : Int) := Int.ofNat_lt.2 h1
    rw [Int.natCast_pow] at this
    exact Int.emod_eq_of_lt (Int.pow_nonneg (by decide)) this
  rw [h3, UInt8.toNat_xor, h2]
  exact u8_xor_nat _ _ y.toNat_lt h1

theorem cells_set (b : ByteArray) : ∀ (ls : List Po.Lt) (k : Nat), k < ls.length → (Po.cells ls).set (k * 4 + 3) (.string b) = Po.cells (ls.take k ++ ((ls.getD k Po.d0).1, (ls.getD k Po.d0).2.1, (ls.getD k Po.d0).2.2.1, b) :: ls.drop (k + 1))
  | [], k, h => by simp at h
  | x :: l, 0, _ => by simp [Po.cells]
  | x :: l, k + 1, h => by
    have ih := cells_set b l k (by simpa using h)
    have e : ∀ m : List Po.Lt, Po.cells (x :: m) = .int .i64 x.1 :: .int .i64 x.2.1 :: .int .i64 x.2.2.1 :: .string x.2.2.2 :: Po.cells m := fun m => by simp [Po.cells]
    rw [show (k + 1) * 4 + 3 = k * 4 + 3 + 1 + 1 + 1 + 1 by omega]
    simp only [e, List.set_cons_succ, List.take_succ_cons, List.cons_append, List.drop_succ_cons, List.getD_cons_succ]
    rw [ih]
theorem row_put {W : World} {s g cap k : Nat} {nodes last : Int} {ls : List Po.Lt} (h : PostAt W s nodes last (.slice (some ⟨g, 0, none⟩) ls.length cap) ls) (hk : k < ls.length) (b : ByteArray) :
    (W.setCell ⟨g, k * 4 + 3, none⟩ (.string b)).heap[s]? = some (.cells #[.int .i64 nodes, .int .i64 last, .slice (some ⟨g, 0, none⟩) ls.length cap] 84 (0, 0)) ∧
      (W.setCell ⟨g, k * 4 + 3, none⟩ (.string b)).ownsRow (s + 1) 88 4 (.slice (some ⟨g, 0, none⟩) ls.length cap) ls.length (Po.cells (ls.take k ++ ((ls.getD k Po.d0).1, (ls.getD k Po.d0).2.1, (ls.getD k Po.d0).2.2.1, b) :: ls.drop (k + 1))) := by
  rcases h.row.2 with ⟨hv, _⟩ | ⟨g', cap', cur, hv, hbg, hb, hnc, hcm, hcs, ht⟩
  · cases hv
  cases hv
  refine ⟨?_, ?_, .inr ⟨g, cap, cur.setIfInBounds (k * 4 + 3) (.string b), rfl, hbg, ?_, hnc, hcm, by simp [hcs], ?_⟩⟩
  · rw [Below.heap_setCell _ _ _ _ (show s ≠ g by omega)]
    exact h.block
  · rw [Po.cells_length]
    simp
    omega
  · simp [World.setCell, Array.getElem?_modify, hb]
  · rw [← cells_set b ls k hk, ← ht]
    simp [List.take_set]

set_option maxHeartbeats 1000000 in
set_option maxRecDepth 100000 in
theorem flip_ok {s : Nat} {nodes last : Int} {v : Value} {ls : List Po.Lt} {x : Po.Lt} (n : Int) (t : Nat) (w : World) (h : PostAt w s nodes last v ls) (hg : Po.get ls n = some x) (hbit : t < 8 * x.2.2.2.size) : Calls Try.prog 40 #[.pointer (some ⟨s, 0, none⟩), .int .i64 n, .int .i64 t] w fun e w' => e = .returned (.int .i64 0) ∧ PostAt w' s nodes last v (Po.put ls n (Po.flipAt x.2.2.2 t)) ∧ Turns w w' s v := by
  have HP : Hid (PostAt w s nodes last v ls) := h
  obtain ⟨hlt, hgd⟩ := Po.pos_get h.good.sorted hg
  have hshort := h.good.short x (Po.get_mem hg).1
  have HPE : Hid (Po.put ls n (Po.flipAt x.2.2.2 t) = ls.take (Po.pos ls n) ++ (x.1, x.2.1, x.2.2.1, Po.flipAt x.2.2.2 t) :: ls.drop (Po.pos ls n + 1)) := Po.put_eq h.good.sorted hg _
  have HGG : Hid (Po.Good last (Po.put ls n (Po.flipAt x.2.2.2 t))) := h.good.put n (by rw [Po.flip_size]; exact hshort)
  have HN : Hid ((Po.get ls n).isSome = true) := by rw [hg]; exact rfl
  clear hg
  rcases h.row.2 with ⟨_, h0⟩ | ⟨g, cap, cur, rfl, hsg, hgb, _⟩
  · omega
  have hgw : g < w.heap.size := (Array.getElem?_eq_some_iff.1 hgb).1
  have hsw := h.lt
  clear h hgb
  go_enter Try.func40, Try.ntmps40
  go_wp2_with fail
  refine (find_any n _ HP.out).mono ?_
  rintro e w2 ⟨rfl, hg⟩
  rw [HN.out]
  have hp2 := HP.out.still hg
  obtain ⟨_, _, c2⟩ := hp2.cells
  obtain ⟨_, _, _, r3⟩ := row_at hp2.row hlt
  rw [hgd] at r3
  obtain ⟨W, cp, hcv, hgW, hWs, hWc⟩ := bytes_laid w2 x.2.2.2
  have HG : Hid (w.grownBy W none) := grown_trans hg hgW
  have HPW : Hid (PostAt W s nodes last (.slice (some ⟨g, 0, none⟩) ls.length cap) ls) := hp2.still hgW
  have HGW : Hid (w2.grownBy W none) := hgW
  have hg2 := hg.size
  generalize Po.pos ls n = k at *
  have HLT : Hid (k < ls.length) := hlt
  obtain ⟨m, hm⟩ : ∃ m, ls.length = m := ⟨_, rfl⟩
  have HM : Hid (ls.length = m) := hm
  rw [hm] at hlt c2
  have hkI : (k : Int) < (m : Int) := by omega
  obtain ⟨x0, x1, x2, x3⟩ := x
  simp only at r3 hshort hcv hbit HPE hWc HGG
  have hs8 : (x3.size : Int) ≤ 65535 := by omega
  obtain ⟨q, hqd⟩ : ∃ q, t / 8 = q := ⟨_, rfl⟩
  obtain ⟨r, hrd⟩ : ∃ r, t % 8 = r := ⟨_, rfl⟩
  have HQR : Hid (t / 8 = q ∧ t % 8 = r) := ⟨hqd, hrd⟩
  have hq : q < x3.size := by omega
  obtain ⟨cy, fy⟩ := hWc q hq
  have ht0 : ¬ ((t : Int) < 0) := by omega
  have ht8 : ¬ (8 * (x3.size : Int) ≤ (t : Int)) := by omega
  have hr8 : r < 8 := by omega
  have hdiv : (t : Int).tdiv 8 = (q : Int) := by rw [Int.tdiv_eq_ediv_of_nonneg (by omega)]; omega
  have hmod : (t : Int).tmod 8 = (r : Int) := by rw [Int.tmod_eq_emod_of_nonneg (by omega)]; omega
  have hdiv' : (t : Int) / 8 = (q : Int) := by omega
  have hmod' : (t : Int) % 8 = (r : Int) := by omega
  clear hqd hrd
  have hqI : (q : Int) < (x3.size : Int) := by omega
  have hq0 : (0 : Int) ≤ (q : Int) := by omega
  have hxo := xor_pow (x3.data[q]'hq) hr8
  have HZ : Hid (((x3.data[q]'hq) ^^^ UInt8.ofNat (2 ^ r)).toNat = ((x3.data[q]'hq) ^^^ UInt8.ofNat (2 ^ r)).toNat) := rfl
  generalize hz : ((x3.data[q]'hq) ^^^ UInt8.ofNat (2 ^ r)).toNat = z at hxo
  have HZZ : Hid (((x3.data[q]'hq) ^^^ UInt8.ofNat (2 ^ r)).toNat = z) := hz
  clear hz HZ
  generalize hy : ((x3.data[q]'hq).toNat : Int) = y at cy hxo
  clear hy
  have HWC : Hid (∀ j (hj : j < x3.size), W.cell? ⟨w2.heap.size, j, none⟩ = some (.int .u8 ((x3.data[j]'hj).toNat : Int)) ∧ W.frozen? ⟨w2.heap.size, j, none⟩ = false) := hWc
  have hgd3 : Hid (ls.getD k Po.d0 = (x0, x1, x2, x3)) := hgd
  clear hg hp2 hm hgW hgd hWc
  go_wp2_with fail
  go_region
  -- the byte is turned
  have hgS : W.grownBy (W.setCell ⟨w2.heap.size, q, none⟩ (.int .u8 (z : Int))) (some w2.heap.size) := ⟨rfl, rfl, rfl, by simp [World.setCell], fun j _ hne => Below.heap_setCell _ _ _ _ (fun e => hne (by rw [e]))⟩
  have hp3 := HPW.out.kept hgS (by simp; omega) (.inr (by simp [Value.ownBlock]; omega))
  have hcb : (convert 103 9 (.slice (some ⟨w2.heap.size, 0, none⟩) x3.size cp)).run Try.prog (W.setCell ⟨w2.heap.size, q, none⟩ (.int .u8 (z : Int))).drew.drew = .ok (.string (Po.flipAt x3 t)) (W.setCell ⟨w2.heap.size, q, none⟩ (.int .u8 (z : Int))).drew.drew := by
    have := run_convert_bytes_back (P := Try.prog) (W.setCell ⟨w2.heap.size, q, none⟩ (.int .u8 (z : Int))).drew.drew 103 9 5 ⟨w2.heap.size, 0, none⟩ cp (Po.flipAt x3 t).data.toList Try.underlying103 Try.underlying5 Try.underlying9 (fun j hj => by
      have hj' : j < x3.size := by
        have := hj
        rw [Array.length_toList] at this
        have e := Po.flip_size x3 t
        exact e ▸ this
      rw [Go.WideShapes.add_plain, Nat.zero_add]
      show (W.setCell ⟨w2.heap.size, q, none⟩ (.int .u8 (z : Int))).cell? ⟨w2.heap.size, j, none⟩ = _
      have hjd : j < x3.data.size := hj'
      by_cases e : j = q
      · subst e
        rw [World.cell?_setCell_same _ _ _ cy, ← HZZ.out]
        simp [Po.flipAt, HQR.out.1, HQR.out.2]
      · rw [World.cell?_setCell_other _ _ _ _ (fun e2 => e (by cases e2; rfl)), (HWC.out j hj').1]
        have e' : ¬ (t / 8 = j) := by rw [HQR.out.1]; exact fun h => e h.symm
        simp [Po.flipAt, e'])
    have hl : (Po.flipAt x3 t).data.toList.length = x3.size := by
      rw [Array.length_toList]
      exact Po.flip_size x3 t
    rw [hl] at this
    simpa using this
  have HT3 : Hid (Turns w (W.setCell ⟨w2.heap.size, q, none⟩ (.int .u8 (z : Int))) s (.slice (some ⟨g, 0, none⟩) ls.length cap)) := turns_set (.of_grown HG.out) (.inl hg2) _
  have HP3 : Hid (PostAt (W.setCell ⟨w2.heap.size, q, none⟩ (.int .u8 (z : Int))) s nodes last (.slice (some ⟨g, 0, none⟩) ls.length cap) ls) := hp3
  clear hgS hp3 hcv
  generalize W.setCell ⟨w2.heap.size, q, none⟩ (.int .u8 (z : Int)) = W2 at *
  obtain ⟨_, _, d2⟩ := HP3.out.cells
  obtain ⟨_, _, _, d3⟩ := row_at HP3.out.row HLT.out
  rw [HM.out] at d2
  have f3 : W2.frozen? ⟨g, k * 4 + 3, none⟩ = false := by
    rcases HP3.out.row.2 with ⟨hv, _⟩ | ⟨g', cap', cur', hv, _, hb', _⟩
    · cases hv
    cases hv
    simp [World.frozen?, hb']
  clear cy fy c2 r3
  go_wp2_with fail
  go_region
  have HE := row_put HP3.out HLT.out (Po.flipAt x3 t)
  rw [hgd3.out] at HE
  have HE2 : Hid (PostAt (W2.setCell ⟨g, k * 4 + 3, none⟩ (.string (Po.flipAt x3 t))) s nodes last (.slice (some ⟨g, 0, none⟩) ls.length cap) (Po.put ls n (Po.flipAt x3 t)) ∧ Turns w (W2.setCell ⟨g, k * 4 + 3, none⟩ (.string (Po.flipAt x3 t))) s (.slice (some ⟨g, 0, none⟩) ls.length cap)) := by
    refine ⟨⟨HE.1, ?_, HGG.out⟩, ⟨HT3.out.os, HT3.out.tape, HT3.out.output, ?_, fun j hj hs hv => ?_⟩⟩
    · rw [Po.put_length, HPE.out]
      exact HE.2
    · rw [show (W2.setCell ⟨g, k * 4 + 3, none⟩ (.string (Po.flipAt x3 t))).heap.size = W2.heap.size by simp [World.setCell]]
      exact HT3.out.size
    · rw [Below.heap_setCell _ _ _ _ (fun e => hv (by rw [e]; rfl))]
      exact HT3.out.block j hj hs hv
  clear HE
  go_wp2
  go_ret
  exact ⟨rfl, HE2.out.1.drew.drew, ⟨HE2.out.2.os, HE2.out.2.tape, HE2.out.2.output, HE2.out.2.size, HE2.out.2.block⟩⟩
/-- Flip, at any post. -/
theorem flip_any {s : Nat} {nodes last : Int} {v : Value} {ls : List Po.Lt} (n bit : Int) (w : World) (h : PostAt w s nodes last v ls) :
    Calls Try.prog 40 #[.pointer (some ⟨s, 0, none⟩), .int .i64 n, .int .i64 bit] w fun e w' => e = .returned (.int .i64 (Po.flipErr ls n bit)) ∧ PostAt w' s nodes last v (Po.flipTo ls n bit) ∧ Turns w w' s v := by
  unfold Po.flipErr Po.flipTo
  cases hg : Po.get ls n with
  | none => exact (flip_none n bit w h hg).mono fun _ _ ⟨he, hg⟩ => ⟨he, h.still hg, .of_grown hg⟩
  | some x =>
    simp only
    by_cases hb : Po.bitOf x.2.2.2 bit
    · rw [if_pos hb, if_pos hb]
      have := flip_ok n bit.toNat w h hg (by simp only [Po.bitOf] at hb; omega)
      rw [Int.toNat_of_nonneg hb.1] at this
      exact this
    · rw [if_neg hb, if_neg hb]
      exact (flip_arg n bit w h hg hb).mono fun _ _ ⟨he, hg⟩ => ⟨he, h.still hg, .of_grown hg⟩
end Go.Proofs.Ytlhobncpifklkaa
