/-
  The document's answer: sextonref12.Open.
-/
import Derived.Test.YtlikcijoejgkkaaRefC
namespace Go.Proofs.Ytlikcijoejgkkaa
open Go.ChangeShapes Go.WideShapes Go.ChangeAt Go.RowKit Go.Deep
namespace Op
theorem used_in {l : List Opn} {n : Int} {k : Nat} {x : Opn} (h : l[k]? = some x) : used (l.take (k + 1)) n = (used (l.take k) n || x.1 == n) := by
  unfold used
  rw [take_at h, List.any_append]
  simp
def low (l : List Opn) (f : Nat) (k : Nat) : List Opn := (l.take k).filter fun x => decide (x.1 < (f : Int))
def high (l : List Opn) (f : Nat) (k : Nat) : List Opn := (l.take k).filter fun x => decide ((f : Int) < x.1)
theorem low_len (l : List Opn) (f k : Nat) : (low l f k).length ≤ k := filter_len l _ k
theorem high_len (l : List Opn) (f k : Nat) : (high l f k).length ≤ k := filter_len l _ k
end Op
set_option maxHeartbeats 8000000 in
theorem ropen_any (v : Value) (l : List Opn) (c no gen : Int) (w : World) (hv : AtW EO w v l) :
    Calls Try.prog 15 #[v, .int .i64 c, VH no gen] w fun e w' => ∃ p n q, e = .returned (.tuple #[.slice p n q, .int .i64 (Op.openFd l c no gen), .int .i64 (Op.openErr l c no gen)]) ∧ At EO (fun b => w.heap.size ≤ b) w' (.slice p n q) (Op.opened l c no gen) ∧ Below w.heap.size w w' := by
  have hv0 := hv
  obtain ⟨ao, cap, rfl, hm, hx⟩ := hv0.open
  clear hv0
  unfold maxLen at hm
  obtain ⟨m, hlm⟩ : ∃ m, l.length = m := ⟨_, rfl⟩
  rw [hlm] at hm hv ⊢
  have HLM : Hid (l.length = m) := hlm
  have HX : Hid (Over w ao l) := hx
  clear hlm hx
  obtain ⟨W, hW⟩ : ∃ W, W = w.alloc (BH no gen) := ⟨_, rfl⟩
  have HB0 : Hid (Below w.heap.size w W) := by show Below w.heap.size w W; rw [hW]; exact (Below.refl _ w).alloc (Nat.le_refl _) _
  have HA0 : Hid (W.heap[w.heap.size]? = some (BH no gen)) := by show W.heap[w.heap.size]? = some (BH no gen); rw [hW]; exact heap_alloc_new w (BH no gen)
  have HV : Hid (AtW EO W (.slice ao m cap) l) := hv.up HB0.out
  clear hv
  by_cases ha : Op.ask l c = 0
  · have HR : Hid (Op.right 0 l = true) := by
      rcases Op.ask_or l c with ⟨_, hr, _⟩ | ⟨h, _⟩ | ⟨h, _⟩
      · exact hr
      · omega
      · omega
    have HA : Hid (Op.ask l c = 0) := ha
    by_cases ho : Ho no gen
    · have HO : Hid (decide (Ho no gen) = true) := decide_eq_true ho
      have HER : Hid (Op.openErr l c no gen = if l.length = 16 then 407 else 0) := by show Op.openErr l c no gen = _; unfold Op.openErr; rw [if_pos ha, if_pos ho]
      have hm16 : m ≤ 16 := by have := Op.right_len HR.out; have := HLM.out; omega
      obtain ⟨er, her⟩ : ∃ er, Op.openErr l c no gen = er := ⟨_, rfl⟩
      obtain ⟨fr, hfr⟩ : ∃ fr, Op.openFd l c no gen = fr := ⟨_, rfl⟩
      rw [her, hfr]
      have HERF : Hid (Op.openErr l c no gen = er ∧ Op.openFd l c no gen = fr) := ⟨her, hfr⟩
      obtain ⟨i0, hi, hz0, hz1, hz2⟩ := info_parts infoO
      clear ha ho her hfr
      go_enter Try.func15, Try.ntmps15
      go_wp2_with fail
      rw [← hW]
      refine (asked_any _ l c _ HV.out).mono ?_
      rintro e w1 ⟨rfl, hb⟩
      rw [HA.out]
      have HB1 : Hid (Below w.heap.size w w1) := HB0.out.trans (hb.mono HB0.out.size)
      have HA1 : Hid (w1.heap[w.heap.size]? = some (BH no gen)) := (hb.block _ (Array.getElem?_eq_some_iff.1 HA0.out).1).trans HA0.out
      obtain ⟨z0, z1⟩ := hand_of HA1.out
      clear hb hW
      go_wp2_with fail
      refine (rto_any _ _ _).mono ?_
      rintro e w2 ⟨rfl, rfl⟩
      rw [HO.out]
      have HB2 : Hid (Below w.heap.size w (w1.alloc (BH no gen))) := HB1.out.alloc HB1.out.size _
      have HA2 : Hid ((w1.alloc (BH no gen)).heap[w.heap.size]? = some (BH no gen)) := (Below.heap_alloc _ _ _ (Array.getElem?_eq_some_iff.1 HA1.out).1).trans HA1.out
      clear z0 z1
      generalize w1.alloc (BH no gen) = w2 at *
      go_wp2
      go_loopw [10] (fun i wr => ∃ (k : Nat), k ≤ 16 ∧ i = .int .i64 k ∧ Hid (k ≤ Op.least 0 l) ∧ Hid (wr.heap[w.heap.size]? = some (BH no gen)) ∧ Hid (Below w.heap.size w wr)) (fun i _ => 16 - (intOf i).toNat)
      case atStart => exact ⟨0, Nat.zero_le _, rfl, Nat.zero_le _, HA2, HB2⟩
      case round =>
        obtain ⟨k, hk, rfl, HK, HAR, HB⟩ := hrel
        by_cases hk16 : k < 16
        · have hk16' : (k : Int) < 16 := by omega
          obtain ⟨wo, hwo⟩ : ∃ wo, wo = wr := ⟨_, rfl⟩
          have HBO : Hid (Below w.heap.size w wo) := by rw [hwo]; exact HB
          have HAO : Hid (wo.heap[w.heap.size]? = some (BH no gen)) := by rw [hwo]; exact HAR
          clear HB HAR
          subst hwo
          go_wp2
          go_loopw [11, 34] (fun t i wr => ∃ (j : Nat) (fb : Bool), j ≤ m ∧ i = .int .i64 j ∧ t = .bool fb ∧ Hid (fb = Op.used (l.take j) k) ∧ Hid (Below wo.heap.size wo wr)) (fun _ i _ => m - (intOf i).toNat)
          case atStart => exact ⟨0, false, Nat.zero_le _, rfl, rfl, rfl, Below.refl _ _⟩
          case round =>
            obtain ⟨j, fb, hj, rfl, rfl, HF, HB⟩ := hrel
            have hsz := HB.out.size
            have HB3 : Hid (Below w.heap.size w wr) := HBO.out.trans (HB.out.mono HBO.out.size)
            by_cases hlt : j < m
            · obtain ⟨x, hxk⟩ : ∃ x, l[j]? = some x := ⟨_, List.getElem?_eq_getElem (by rw [HLM.out]; exact hlt)⟩
              have HU : Hid (Op.used (l.take (j + 1)) k = (Op.used (l.take j) k || x.1 == (k : Int))) := Op.used_in hxk
              obtain ⟨b, off, rfl, -, hB, hc⟩ := HX.out j x hxk
              obtain ⟨c0, c1, c2, c3⟩ := opn_cells HB3.out hB hc
              clear hc hxk
              have hlt' : (j : Int) < (m : Int) := by omega
              cases fb with
              | true =>
                go_wp2
                go_roundw
                case rel => exact ⟨j + 1, true, by omega, by go_num, rfl, by rw [HU.out, ← HF.out]; rfl, HB.out.alloc hsz _⟩
                case measure => simp [intOf]; omega
              | false =>
                obtain ⟨ee, hee⟩ : ∃ ee, (x.1 == (k : Int)) = ee := ⟨_, rfl⟩
                have HEE : Hid ((x.1 == (k : Int)) = ee) := hee
                cases ee with
                | true =>
                  go_wp2
                  go_roundw
                  case rel => exact ⟨j + 1, true, by omega, by go_num, rfl, by rw [HU.out, ← HF.out, HEE.out]; rfl, HB.out.alloc hsz _⟩
                  case measure => simp [intOf]; omega
                | false =>
                  go_wp2
                  go_roundw
                  case rel => exact ⟨j + 1, false, by omega, by go_num, rfl, by rw [HU.out, ← HF.out, HEE.out]; rfl, HB.out.alloc hsz _⟩
                  case measure => simp [intOf]; omega
            · obtain rfl : j = m := by omega
              have HF2 : Hid (fb = Op.used l k) := by
                have := HF.out
                rwa [← HLM.out, List.take_length] at this
              have HAR : Hid (wr.heap[w.heap.size]? = some (BH no gen)) := (HB.out.block _ (Array.getElem?_eq_some_iff.1 HAO.out).1).trans HAO.out
              by_cases hkl : k < Op.least 0 l
              · have HNX : Hid (k + 1 ≤ Op.least 0 l) := hkl
                have hfb : fb = true := HF2.out.trans (Op.used_low hkl)
                subst hfb
                clear hkl
                go_wp2
                go_roundw
                case rel => exact ⟨k + 1, by omega, by go_num, HNX, HAR, HB3⟩
                case measure => simp [intOf]; omega
              · have hkl2 : Op.least 0 l = k := by have := HK.out; omega
                have HL : Hid (Op.least 0 l = k) := hkl2
                have hfb : fb = false := by rw [HF2.out, ← hkl2]; exact Op.used_least HR.out
                subst hfb
                have hj16 : j ≠ 16 := fun h => by
                  have := Op.least_full HR.out (HLM.out.trans h)
                  omega
                have HEND : Hid (er = 0 ∧ fr = k ∧ Op.opened l c no gen = l.take k ++ [((k : Int), c, no, gen)] ++ l.drop k) := by
                  have e1 := HER.out
                  rw [if_neg (by rw [HLM.out]; exact hj16)] at e1
                  have e2 : Op.openFd l c no gen = (Op.least 0 l : Int) := if_pos e1
                  have e3 : Op.opened l c no gen = l.take (Op.least 0 l) ++ [((Op.least 0 l : Int), c, no, gen)] ++ l.drop (Op.least 0 l) := if_pos e1
                  rw [HL.out] at e2 e3
                  exact ⟨HERF.out.1.symm.trans e1, HERF.out.2.symm.trans e2, e3⟩
                have HLOW : Hid (Op.low l k j = l.take k) := by
                  have := Op.filter_low HR.out
                  rw [HL.out] at this
                  show (l.take j).filter _ = _
                  rw [← HLM.out, List.take_length]
                  exact this
                have HHIGH : Hid (Op.high l k j = l.drop k) := by
                  have := Op.filter_high HR.out
                  rw [HL.out] at this
                  show (l.take j).filter _ = _
                  rw [← HLM.out, List.take_length]
                  exact this
                clear hkl hkl2 hlt hsz
                obtain ⟨wp, hwp⟩ : ∃ wp, wp = wr := ⟨_, rfl⟩
                have HBP : Hid (Below w.heap.size w wp) := by rw [hwp]; exact HB3
                have HAP : Hid (wp.heap[w.heap.size]? = some (BH no gen)) := by rw [hwp]; exact HAR
                clear HB HB3 HAR
                subst hwp
                go_wp2
                go_loopw [14, 49] (fun u i wr => ∃ (q : Nat) (pp : Option Addr) (jj qq : Nat), q ≤ j ∧ i = .int .i64 q ∧ u = .slice pp jj qq ∧ Hid (Row EO wr wp.heap.size 27 (.slice pp jj qq) (Op.low l k q)) ∧ Hid (Below wp.heap.size wp wr)) (fun _ i _ => j - (intOf i).toNat)
                case atStart => exact ⟨0, none, 0, 0, Nat.zero_le _, rfl, rfl, Row.nil _ _ _ _, Below.refl _ _⟩
                case round =>
                  obtain ⟨q, pp, jj, qq, hq, rfl, rfl, HRW, HB⟩ := hrel
                  have hsz := HB.out.size
                  have HB3 : Hid (Below w.heap.size w wr) := HBP.out.trans (HB.out.mono HBP.out.size)
                  by_cases hlt : q < j
                  · obtain ⟨x, hxk⟩ : ∃ x, l[q]? = some x := ⟨_, List.getElem?_eq_getElem (by rw [HLM.out]; exact hlt)⟩
                    have HXK : Hid (l[q]? = some x) := hxk
                    obtain ⟨b, off, rfl, -, hB, hc⟩ := HX.out q x hxk
                    obtain ⟨c0, c1, c2, c3⟩ := opn_cells HB3.out hB hc
                    clear hc hxk
                    have hlt' : (q : Int) < (j : Int) := by omega
                    have HLEN : Hid ((Op.low l k q).length ≤ 40) := by
                      have h1 := Op.low_len l k q
                      show (Op.low l k q).length ≤ 40
                      omega
                    by_cases g : x.1 < (k : Int)
                    · have HG : Hid (Op.low l k (q + 1) = Op.low l k q ++ [x]) := by
                        have := Op.filter_in (p := fun x => decide (x.1 < (k : Int))) HXK.out (decide_eq_true g)
                        show Op.low l k (q + 1) = Op.low l k q ++ [x]
                        unfold Op.low
                        exact this
                      have HR3 : Hid (Row EO ((wr.alloc (BO x)).alloc (BO x)) wp.heap.size 27 (.slice pp jj qq) (Op.low l k q)) := (HRW.out.up ((Below.refl _ _).alloc (Nat.le_refl _) _)).up ((Below.refl _ _).alloc (Nat.le_refl _) _)
                      have HB4 : Hid (Below wp.heap.size wp ((wr.alloc (BO x)).alloc (BO x))) := (HB.out.alloc hsz _).alloc (by simp; omega) _
                      have HO2 : Hid (AtW EO ((wr.alloc (BO x)).alloc (BO x)) (.slice (some ⟨wr.heap.size + 1, 0, none⟩) 1 1) [x]) := at_two wr x
                      go_wp2_with (at_builtin; refine wpList_row _ rfl _ _ 22 rfl EO (fun _ => True) wp.heap.size 27 i0 _ 32 Try.underlying22 hi hz0 hz1 hz2 rfl _ (Op.low l k q) rfl HR3.out _ [x] rfl HO2.out (by have := HLEN.out; unfold maxLen; simp only [List.length_cons, List.length_nil]; omega) (by have := HLEN.out; simp only [List.length_cons, List.length_nil]; omega) (by simp; omega) ?_; intro v7 w7 hrow7 hg7 hloc7)
                      have HEND2 : Hid (Row EO w7 wp.heap.size 27 v7 (Op.low l k (q + 1)) ∧ Below wp.heap.size wp w7) := ⟨by rw [HG.out]; exact hrow7, HB4.out.grown hg7 (by simp; omega) (fun k hk => (HR3.out.lt k hk).1)⟩
                      clear hrow7 hg7 hloc7
                      obtain ⟨p7, n7, c7, rfl⟩ := HEND2.out.1.slice3
                      go_wp2
                      go_roundw
                      case rel => exact ⟨q + 1, p7, n7, c7, by omega, by go_num, rfl, HEND2.out.1, HEND2.out.2⟩
                      case measure => simp [intOf]; omega
                    · have HG : Hid (Op.low l k (q + 1) = Op.low l k q) := by
                        have := Op.filter_out (p := fun x => decide (x.1 < (k : Int))) HXK.out (decide_eq_false g)
                        show Op.low l k (q + 1) = Op.low l k q
                        unfold Op.low
                        exact this
                      go_wp2
                      go_roundw
                      case rel => exact ⟨q + 1, pp, jj, qq, by omega, by go_num, rfl, by rw [HG.out]; exact HRW.out.up ((Below.refl _ _).alloc (Nat.le_refl _) _), HB.out.alloc hsz _⟩
                      case measure => simp [intOf]; omega
                  · obtain rfl : j = q := by omega
                    have HAR : Hid (wr.heap[w.heap.size]? = some (BH no gen)) := (HB.out.block _ (Array.getElem?_eq_some_iff.1 HAP.out).1).trans HAP.out
                    obtain ⟨z0, z1⟩ := hand_of HAR.out
                    have HR3 : Hid (Row EO (wr.alloc (BO ((k : Int), c, no, gen))) wp.heap.size 27 (.slice pp jj qq) (Op.low l k j)) := HRW.out.up ((Below.refl _ _).alloc (Nat.le_refl _) _)
                    have HB4 : Hid (Below wp.heap.size wp (wr.alloc (BO ((k : Int), c, no, gen)))) := HB.out.alloc hsz _
                    have HO2 : Hid (AtW EO (wr.alloc (BO ((k : Int), c, no, gen))) (.slice (some ⟨wr.heap.size, 0, none⟩) 1 1) [((k : Int), c, no, gen)]) := at_one (heap_alloc_new wr _)
                    have HLEN : Hid ((Op.low l k j).length ≤ j) := Op.low_len l k j
                    go_wp2_with (at_builtin; refine wpList_row _ rfl _ _ 22 rfl EO (fun _ => True) wp.heap.size 27 i0 _ 32 Try.underlying22 hi hz0 hz1 hz2 rfl _ (Op.low l k j) rfl HR3.out _ [((k : Int), c, no, gen)] rfl HO2.out (by have := HLEN.out; unfold maxLen; simp only [List.length_cons, List.length_nil]; omega) (by have := HLEN.out; simp only [List.length_cons, List.length_nil]; omega) (by simp; omega) ?_; intro v7 w7 hrow7 hg7 hloc7)
                    have HEND3 : Hid (Row EO w7 wp.heap.size 27 v7 (Op.low l k j ++ [((k : Int), c, no, gen)]) ∧ Below wp.heap.size wp w7) := ⟨hrow7, HB4.out.grown hg7 (by simp; omega) (fun k hk => (HR3.out.lt k hk).1)⟩
                    clear hrow7 hg7 hloc7 z0 z1
                    obtain ⟨p8, n8, c8, rfl⟩ := HEND3.out.1.slice3
                    go_wp2
                    go_loopw [14, 71] (fun u i wr => ∃ (q : Nat) (pp : Option Addr) (jj qq : Nat), q ≤  j ∧ i = .int .i64 q ∧ u = .slice pp  jj qq ∧ Hid (Row EO wr wp.heap.size 27 (.slice pp  jj qq) (Op.low l k  j ++ [((k : Int), c, no, gen)] ++ Op.high l k q)) ∧ Hid (Below wp.heap.size wp wr)) (fun _ i _ =>  j - (intOf i).toNat)
                    case atStart => exact ⟨0, p8, n8, c8, Nat.zero_le _, rfl, rfl, by have := HEND3.out.1; show Row EO _ _ _ _ _; simpa [Op.high] using this, HEND3.out.2⟩
                    case round =>
                      obtain ⟨q, pp,  jj, qq, hq, rfl, rfl, HRW, HB⟩ := hrel
                      have hsz := HB.out.size
                      have HB3 : Hid (Below w.heap.size w wr) := HBP.out.trans (HB.out.mono HBP.out.size)
                      by_cases hlt : q <  j
                      · obtain ⟨x, hxk⟩ : ∃ x, l[q]? = some x := ⟨_, List.getElem?_eq_getElem (by rw [HLM.out]; exact hlt)⟩
                        have HXK : Hid (l[q]? = some x) := hxk
                        obtain ⟨b, off, rfl, -, hB, hc⟩ := HX.out q x hxk
                        obtain ⟨c0, c1, c2, c3⟩ := opn_cells HB3.out hB hc
                        clear hc hxk
                        have hlt' : (q : Int) < (j : Int) := by omega
                        have HLEN : Hid ((Op.low l k  j ++ [((k : Int), c, no, gen)] ++ Op.high l k q).length ≤ 40) := by
                          have h1 := Op.high_len l k q
                          have h2 := Op.low_len l k  j
                          show (Op.low l k  j ++ [((k : Int), c, no, gen)] ++ Op.high l k q).length ≤ 40
                          simp only [List.length_append, List.length_cons, List.length_nil]
                          omega
                        by_cases g : (k : Int) < x.1
                        · have HG : Hid (Op.low l k  j ++ [((k : Int), c, no, gen)] ++ Op.high l k (q + 1) = Op.low l k  j ++ [((k : Int), c, no, gen)] ++ Op.high l k q ++ [x]) := by
                            have := Op.filter_in (p := fun x => decide ((k : Int) < x.1)) HXK.out (decide_eq_true g)
                            show Op.low l k  j ++ [((k : Int), c, no, gen)] ++ Op.high l k (q + 1) = Op.low l k  j ++ [((k : Int), c, no, gen)] ++ Op.high l k q ++ [x]
                            rw [List.append_assoc _ (Op.high l k q)]
                            congr 1
                          have HR3 : Hid (Row EO ((wr.alloc (BO x)).alloc (BO x)) wp.heap.size 27 (.slice pp  jj qq) (Op.low l k  j ++ [((k : Int), c, no, gen)] ++ Op.high l k q)) := (HRW.out.up ((Below.refl _ _).alloc (Nat.le_refl _) _)).up ((Below.refl _ _).alloc (Nat.le_refl _) _)
                          have HB4 : Hid (Below wp.heap.size wp ((wr.alloc (BO x)).alloc (BO x))) := (HB.out.alloc hsz _).alloc (by simp; omega) _
                          have HO2 : Hid (AtW EO ((wr.alloc (BO x)).alloc (BO x)) (.slice (some ⟨wr.heap.size + 1, 0, none⟩) 1 1) [x]) := at_two wr x
                          go_wp2_with (at_builtin; refine wpList_row _ rfl _ _ 22 rfl EO (fun _ => True) wp.heap.size 27 i0 _ 32 Try.underlying22 hi hz0 hz1 hz2 rfl _ (Op.low l k  j ++ [((k : Int), c, no, gen)] ++ Op.high l k q) rfl HR3.out _ [x] rfl HO2.out (by have := HLEN.out; unfold maxLen; simp only [List.length_cons, List.length_nil]; omega) (by have := HLEN.out; simp only [List.length_cons, List.length_nil]; omega) (by simp; omega) ?_; intro v7 w7 hrow7 hg7 hloc7)
                          have HEND2 : Hid (Row EO w7 wp.heap.size 27 v7 (Op.low l k  j ++ [((k : Int), c, no, gen)] ++ Op.high l k (q + 1)) ∧ Below wp.heap.size wp w7) := ⟨by rw [HG.out]; exact hrow7, HB4.out.grown hg7 (by simp; omega) (fun k hk => (HR3.out.lt k hk).1)⟩
                          clear hrow7 hg7 hloc7
                          obtain ⟨p7, n7, c7, rfl⟩ := HEND2.out.1.slice3
                          go_wp2
                          go_roundw
                          case rel => exact ⟨q + 1, p7, n7, c7, by omega, by go_num, rfl, HEND2.out.1, HEND2.out.2⟩
                          case measure => simp [intOf]; omega
                        · have HG : Hid (Op.low l k  j ++ [((k : Int), c, no, gen)] ++ Op.high l k (q + 1) = Op.low l k  j ++ [((k : Int), c, no, gen)] ++ Op.high l k q) := by
                            have := Op.filter_out (p := fun x => decide ((k : Int) < x.1)) HXK.out (decide_eq_false g)
                            show Op.low l k  j ++ [((k : Int), c, no, gen)] ++ Op.high l k (q + 1) = Op.low l k  j ++ [((k : Int), c, no, gen)] ++ Op.high l k q
                            congr 1
                          go_wp2
                          go_roundw
                          case rel => exact ⟨q + 1, pp,  jj, qq, by omega, by go_num, rfl, by rw [HG.out]; exact HRW.out.up ((Below.refl _ _).alloc (Nat.le_refl _) _), HB.out.alloc hsz _⟩
                          case measure => simp [intOf]; omega
                      · have hqe : q =  j := by omega
                        subst hqe
                        have HFIN : Hid (At EO (fun b => w.heap.size ≤ b) wr (.slice pp  jj qq) (Op.opened l c no gen)) := by
                          have h := HRW.out.at.imp (T := fun b => w.heap.size ≤ b) (fun b hb _ => by have := HBP.out.size; omega)
                          rw [HLOW.out, HHIGH.out, ← HEND.out.2.2] at h
                          exact h
                        go_wp2
                        go_ret3
                        exact ⟨_, _, _, by rw [HEND.out.1, HEND.out.2.1]; rfl, HFIN.out, HB3.out⟩
        · have hke : k = 16 := by omega
          have hk16' : ¬ (k : Int) < 16 := by omega
          have HEND : Hid (er = 407 ∧ fr = 0 ∧ Op.opened l c no gen = []) := by
            have h1 := Op.least_in l
            have h2 := HK.out
            have h3 := Op.right_len HR.out
            have e1 := HER.out
            rw [if_pos (by omega)] at e1
            exact ⟨HERF.out.1.symm.trans e1, HERF.out.2.symm.trans (if_neg (by rw [e1]; decide)), if_neg (by rw [e1]; decide)⟩
          go_wp2
          go_ret3
          exact ⟨none, 0, 0, by rw [HEND.out.1, HEND.out.2.1]; rfl, by rw [HEND.out.2.2]; exact At.nil, HB.out⟩
    · have HP : Hid (Op.openErr l c no gen = 1) := by show Op.openErr l c no gen = 1; unfold Op.openErr; rw [if_pos ha, if_neg ho]
      have HF : Hid (Op.openFd l c no gen = 0) := if_neg (by rw [HP.out]; decide)
      have HPO : Hid (Op.opened l c no gen = []) := if_neg (by rw [HP.out]; decide)
      have HO : Hid (decide (Ho no gen) = false) := decide_eq_false ho
      rw [HP.out, HF.out]
      clear ha ho
      go_enter Try.func15, Try.ntmps15
      go_wp2_with fail
      rw [← hW]
      refine (asked_any _ l c _ HV.out).mono ?_
      rintro e w1 ⟨rfl, hb⟩
      rw [HA.out]
      have HB1 : Hid (Below w.heap.size w w1) := HB0.out.trans (hb.mono HB0.out.size)
      obtain ⟨z0, z1⟩ := hand_of ((hb.block _ (Array.getElem?_eq_some_iff.1 HA0.out).1).trans HA0.out)
      clear hb hW
      go_wp2_with fail
      refine (rto_any _ _ _).mono ?_
      rintro e w' ⟨rfl, rfl⟩
      rw [HO.out]
      have HB2 : Hid (Below w.heap.size w (w1.alloc (BH no gen))) := HB1.out.alloc HB1.out.size _
      go_wp2
      go_ret3
      exact ⟨_, _, _, rfl, by rw [HPO.out]; exact At.nil, HB2.out⟩
  · have he : Op.openErr l c no gen = Op.ask l c := by unfold Op.openErr; rw [if_neg ha]
    have HP : Hid (Op.opened l c no gen = []) := if_neg (by rw [he]; exact ha)
    have HF : Hid (Op.openFd l c no gen = 0) := if_neg (by rw [he]; exact ha)
    obtain ⟨a, haa⟩ : ∃ a, Op.ask l c = a := ⟨_, rfl⟩
    have HA : Hid (Op.ask l c = a) := haa
    rw [haa] at he ha
    rw [he, HF.out]
    have hne : (a == 0) = false := beq_eq_false_iff_ne.2 ha
    clear he ha haa
    go_enter Try.func15, Try.ntmps15
    go_wp2_with fail
    rw [← hW]
    refine (asked_any _ l c _ HV.out).mono ?_
    rintro e w1 ⟨rfl, hb⟩
    rw [HA.out]
    have HB1 : Hid (Below w.heap.size w w1) := HB0.out.trans (hb.mono HB0.out.size)
    clear hb hW
    go_wp2
    go_ret3
    exact ⟨_, _, _, rfl, by rw [HP.out]; exact At.nil, HB1.out⟩
end Go.Proofs.Ytlikcijoejgkkaa
