/-
  The document's Read: what it answers at any runs, size, place and number.
-/
import Derived.Test.YtkkaendfcfkbbaaRight
import Derived.Test.YtkkaendfcfkbbaaMade
import Derived.Test.YtkkaendfcfkbbaaPlainR
namespace Go.Proofs.Ytkkaendfcfkbbaa
open Go.ChangeShapes Go.WideShapes Go.ChangeAt Go.RowKit Go.Deep

theorem Bl.look_take_succ (l : List Bl.R) {k : Nat} (hk : k < l.length) {x : Bl.R} (hx : l.getD k (0, .empty) = x) (p : Int) : Bl.look 0 p (Bl.ones (l.take (k + 1))) = if x.1 ≤ p ∧ p < x.1 + (x.2.size : Int) then x.2.data.toList.getD (p - x.1).toNat 0 else Bl.look 0 p (Bl.ones (l.take k)) := by
  rw [Bl.take_succ l hk hx, Bl.ones_append, Bl.look_append, show Bl.ones [x] = Bl.one x by simp [Bl.ones], Bl.look_one]
  rfl
theorem Bl.over_succ (a : Int) (m : Nat) (l : List Bl.R) : Bl.over a (m + 1) l = Bl.over a m l ++ [Bl.look 0 (a + (m : Int)) (Bl.ones l)] := by
  unfold Bl.over
  rw [List.range_succ, List.map_append]
  rfl
theorem getD_byte (s : ByteArray) (i : Nat) (h : i < s.size) : s.data.toList.getD i 0 = s[i] := by
  have h2 : i < s.data.toList.length := by simpa using h
  simp only [List.getD, List.getElem?_eq_getElem h2, Option.getD_some]
  simp
  rfl
theorem conv_any {W : World} {base : Nat} {v : Value} {xs : List UInt8} (h : W.ownsRow base 5 1 v xs.length (xs.map fun c => Value.int .u8 (c.toNat : Int))) : (convert 47 9 v).run Try.prog W = .ok (.string (Bl.txt xs)) W := by
  by_cases hp : 0 < xs.length
  · obtain ⟨g, cap, rfl, hc⟩ := conv_own h hp
    exact hc
  · have : xs = [] := List.eq_nil_of_length_eq_zero (by omega)
    subst this
    rcases h.2 with ⟨rfl, _⟩ | ⟨g, cap, cur, rfl, _⟩
    · exact run_convert_bytes_nil W 47 5 Try.underlying47 Try.underlying5 0 0 9 Try.underlying9
    · have h2 := run_convert_bytes_arg W 47 5 Try.underlying47 Try.underlying5 g 0 0 cap [] rfl (fun i hi => by omega) 9 Try.underlying9
      rw [show (List.length (α := UInt8) []) = 0 from rfl, h2]
      rfl
set_option maxHeartbeats 4000000 in
theorem refRead_ok (v : Value) (l : List Bl.R) (size at_ n : Int) (w : World) (hv : FieldsAt w.heap.size w v l) (hok : okFields l) (hr : Bl.right (-1) l) (h0 : 0 ≤ at_) (h5 : at_ ≤ 9223372036854775807) (h1 : 0 ≤ size) (h2 : size ≤ 1048576) (h3 : 0 ≤ n) (h4 : n ≤ 512) :
    Calls Try.prog 19 #[v, .int .i64 size, .int .i64 at_, .int .i64 n] w fun e w' => e = .returned (.tuple #[.string (Bl.txt (Bl.over at_ (min n (size - at_)).toNat l)), .int .i64 0]) ∧ Below w.heap.size w w' := by
  obtain ⟨i1, hj, hy0, hy1, hy2⟩ := info_parts infoByte
  have HV : Hid (FieldsAt w.heap.size w v l) := hv
  have HR : Hid (Bl.right (-1) l) := hr
  have HO : Hid (okFields l) := hok
  have HD : Hid (decide (Bl.right (-1) l) = true) := decide_eq_true hr
  obtain ⟨ao, cap, rfl, hm, hx⟩ := hv.open
  clear hv hr
  unfold maxLen at hm
  obtain ⟨nl, hnl⟩ : ∃ nl, l.length = nl := ⟨_, rfl⟩
  rw [hnl] at HV hm hx ⊢
  have HN : Hid (l.length = nl) := hnl
  have HX : Hid (∀ j, j < nl → ∃ b off, ao = some ⟨b, off, none⟩ ∧ b < w.heap.size ∧ w.cell? ⟨b, off + j * 2, none⟩ = some (.int .i64 (l.getD j (0, .empty)).1) ∧ w.cell? ⟨b, off + j * 2 + 1, none⟩ = some (.string (l.getD j (0, .empty)).2)) := hx
  have g1 : ¬ size < 0 := by omega
  have g2 : ¬ 1048576 < size := by omega
  have g3 : ¬ at_ < 0 := by omega
  have g4 : ¬ n < 0 := by omega
  have g5 : ¬ 512 < n := by omega
  clear hnl hx
  go_enter Try.func19, Try.ntmps19
  go_wp2_with fail
  refine (right_any _ l _ HV.out hok).mono ?_
  rintro e w0 ⟨rfl, hb0⟩
  rw [HD.out]
  have HB0 : Hid (Below w.heap.size w w0) := hb0
  clear hb0
  go_wp2
  go_loopw [10, 11] (fun o i wr => ∃ k : Nat, (k : Int) ≤ n ∧ (k = 0 ∨ (k : Int) ≤ size - at_) ∧ i = .int .i64 k ∧ wr.ownsRow w.heap.size 5 1 o k ((Bl.over at_ k l).map fun c => Value.int .u8 (c.toNat : Int)) ∧ Below w.heap.size w wr) (fun _ i _ => (n - intOf i).toNat)
  case atStart => exact ⟨0, by omega, .inl rfl, rfl, World.ownsRow_nil _ _ _ _, HB0.out⟩
  case round =>
    obtain ⟨k, hk, hks, rfl, hown, hbl⟩ := hrel
    have hsz := hbl.size
    by_cases hlt : (k : Int) < n ∧ at_ < size - (k : Int)
    · obtain ⟨hlt1, hlt2⟩ := hlt
      obtain ⟨p, hp⟩ : ∃ p, at_ + (k : Int) = p := ⟨_, rfl⟩
      have HPP : Hid (at_ + (k : Int) = p) := hp
      have hp0 : 0 ≤ p := by omega
      have hp1 : p ≤ 1048576 := by omega
      have HOV : Hid (Bl.over at_ (k + 1) l = Bl.over at_ k l ++ [Bl.look 0 p (Bl.ones l)]) := by
        show Bl.over at_ (k + 1) l = _
        rw [Bl.over_succ, hp]
      have hlt3 : at_ < size - (k : Int) := hlt2
      go_wp2
      go_loopw [12, 51] (fun c j wi => ∃ q : Nat, q ≤ nl ∧ j = .int .i64 q ∧ c = .int .u8 ((Bl.look 0 p (Bl.ones (l.take q))).toNat : Int) ∧ wi.ownsRow w.heap.size 5 1 u10 k ((Bl.over at_ k l).map fun c => Value.int .u8 (c.toNat : Int)) ∧ Below w.heap.size w wi) (fun _ j _ => nl - (intOf j).toNat)
      case atStart => exact ⟨0, Nat.zero_le _, rfl, rfl, hown, hbl⟩
      case round =>
        obtain ⟨q, hq, rfl, rfl, hown, hbl⟩ := hrel
        have hsz := hbl.size
        by_cases hlq : q < nl
        · obtain ⟨b, off, rfl, hB, c0, c1⟩ := HX.out q hlq
          have hk' : q < l.length := by rw [HN.out]; exact hlq
          rw [← hbl.cell (p := ⟨b, off + q * 2, none⟩) hB] at c0
          rw [← hbl.cell (p := ⟨b, off + q * 2 + 1, none⟩) hB] at c1
          obtain ⟨x, hxk⟩ : ∃ x, l.getD q (0, .empty) = x := ⟨_, rfl⟩
          rw [hxk] at c0 c1
          have hmem : x ∈ l := by rw [← hxk]; simp [List.getD, hk']
          obtain ⟨q0, q1, q2⟩ := Bl.right_mem HR.out _ hmem
          have HLK : Hid (Bl.look 0 p (Bl.ones (l.take (q + 1))) = if x.1 ≤ p ∧ p < x.1 + (x.2.size : Int) then x.2.data.toList.getD (p - x.1).toNat 0 else Bl.look 0 p (Bl.ones (l.take q))) := Bl.look_take_succ l hk' hxk p
          clear hxk hmem
          obtain ⟨xa, xs⟩ := x
          unfold Bl.rend at q2
          simp only at c0 c1 q0 q1 q2 HLK
          replace q2 : xa + (xs.size : Int) ≤ 1048576 := q2
          have hlq' : (q : Int) < (nl : Int) := by omega
          have hbw : b < wr.heap.size := by omega
          by_cases hin : 0 ≤ p - xa
          · obtain ⟨d, hd⟩ := Int.eq_ofNat_of_zero_le hin
            have hd0 : (0 : Int) ≤ (d : Int) := by omega
            by_cases hin2 : (d : Int) < (xs.size : Int)
            · have hds : d < xs.size := by omega
              have HLK2 : Hid (Bl.look 0 p (Bl.ones (l.take (q + 1))) = xs[d]) := by
                show Bl.look 0 p (Bl.ones (l.take (q + 1))) = xs[d]
                rw [HLK.out, if_pos (by omega), show (p - xa).toNat = d by omega, getD_byte xs d hds]
              clear hin
              go_wp2
              go_roundw
              case rel => exact ⟨q + 1, by omega, by go_num, by rw [HLK2.out], hown.alloc _, hbl.alloc hsz _⟩
              case measure => simp [intOf]; omega
            · have HLK2 : Hid (Bl.look 0 p (Bl.ones (l.take (q + 1))) = Bl.look 0 p (Bl.ones (l.take q))) := by
                show Bl.look 0 p (Bl.ones (l.take (q + 1))) = _
                rw [HLK.out, if_neg (by omega)]
              clear hin
              go_wp2
              go_roundw
              case rel => exact ⟨q + 1, by omega, by go_num, by rw [HLK2.out], hown.alloc _, hbl.alloc hsz _⟩
              case measure => simp [intOf]; omega
          · have HLK2 : Hid (Bl.look 0 p (Bl.ones (l.take (q + 1))) = Bl.look 0 p (Bl.ones (l.take q))) := by
              show Bl.look 0 p (Bl.ones (l.take (q + 1))) = _
              rw [HLK.out, if_neg (by omega)]
            go_wp2
            go_roundw
            case rel => exact ⟨q + 1, by omega, by go_num, by rw [HLK2.out], hown.alloc _, hbl.alloc hsz _⟩
            case measure => simp [intOf]; omega
        · obtain rfl : q = nl := by omega
          have HTL : Hid (l.take q = l) := by
            show l.take q = l
            rw [← HN.out, List.take_length]
          rw [HTL.out]
          have hby : (Bl.look 0 p (Bl.ones l)).toNat < 256 := (Bl.look 0 p (Bl.ones l)).toNat_lt
          generalize Bl.look 0 p (Bl.ones l) = cc at *
          have hkl : k ≤ 512 := by omega
          go_wp2_with (at_builtin; refine wpList_append_own _ rfl (.tmp 75) (.tmp 77) 47 rfl w.heap.size 5 i1 (.int .u8 0) 1 1 Try.underlying47 hj hy0 hy1 hy2 rfl (by decide) _ _ _ rfl (hown.alloc _) ⟨wr.heap.size, 0, none⟩ 1 1 [.int .u8 (cc.toNat : Int)] rfl rfl (one_new _ _ rfl _ _) (by simp [Value.oneCell']) (by unfold maxLen; omega) (by omega) (by first | omega | (simp; omega)) ?_; intro v1 w1 hown1 hgrow1 _)
          go_roundw
          case rel =>
            refine ⟨k + 1, by omega, .inr (by omega), by go_num, ?_, (hbl.alloc hsz _).grown hgrow1 (by simp; omega) (fun g hg => (hown.lt g hg).1)⟩
            rw [HOV.out, List.map_append]
            exact hown1
          case measure => simp [intOf]; omega
    · have HK : Hid ((min n (size - at_)).toNat = k) := by
        show (min n (size - at_)).toNat = k
        omega
      have hcv : (convert 47 9 u10).run Try.prog wr = .ok (.string (Bl.txt (Bl.over at_ k l))) wr := conv_any (by rw [Bl.over_length]; exact hown)
      obtain ⟨pu, cu, rfl⟩ := own_slice hown
      by_cases hk1 : (k : Int) < n
      · have hk2 : ¬ at_ < size - (k : Int) := fun h => hlt ⟨hk1, h⟩
        clear hlt
        go_wp2
        go_ret2
        rw [HK.out]
        exact ⟨rfl, hbl⟩
      · clear hlt
        go_wp2
        go_ret2
        rw [HK.out]
        exact ⟨rfl, hbl⟩
theorem refRead_any (v : Value) (l : List Bl.R) (size at_ n : Int) (w : World) (hv : FieldsAt w.heap.size w v l) (hok : okFields l) (h5 : at_ ≤ 9223372036854775807) :
    Calls Try.prog 19 #[v, .int .i64 size, .int .i64 at_, .int .i64 n] w fun e w' => e = .returned (.tuple #[.string (Bl.rOut l size at_ n), .int .i64 (Bl.rErr l size at_ n)]) ∧ Below w.heap.size w w' := by
  by_cases hr : Bl.right (-1) l
  · have HD : Hid (decide (Bl.right (-1) l) = true) := decide_eq_true hr
    by_cases hb : size < 0 ∨ 1048576 < size ∨ at_ < 0 ∨ n < 0 ∨ 512 < n
    · have H : Hid (Bl.rErr l size at_ n = 1) := by show Bl.rErr l size at_ n = 1; unfold Bl.rErr; rw [if_pos hr, if_pos hb]
      have HOu : Hid (Bl.rOut l size at_ n = Bl.txt []) := by show Bl.rOut l size at_ n = _; unfold Bl.rOut; rw [H.out, if_neg (by decide)]
      rw [H.out, HOu.out]
      have HV : Hid (FieldsAt w.heap.size w v l) := hv
      obtain ⟨ao, cap, rfl, hm, _⟩ := hv.open
      clear hv
      go_enter Try.func19, Try.ntmps19
      go_wp2_with fail
      refine (right_any _ l _ HV.out hok).mono ?_
      rintro e w1 ⟨rfl, hb1⟩
      rw [HD.out]
      have HB : Hid (Below w.heap.size w w1) := hb1
      clear hb1
      by_cases g1 : size < 0
      · go_wp2
        go_ret2
        exact ⟨rfl, HB.out⟩
      by_cases g2 : 1048576 < size
      · go_wp2
        go_ret2
        exact ⟨rfl, HB.out⟩
      by_cases g3 : at_ < 0
      · go_wp2
        go_ret2
        exact ⟨rfl, HB.out⟩
      by_cases g4 : n < 0
      · go_wp2
        go_ret2
        exact ⟨rfl, HB.out⟩
      · have g5 : 512 < n := by omega
        go_wp2
        go_ret2
        exact ⟨rfl, HB.out⟩
    · have H : Bl.rErr l size at_ n = 0 := by unfold Bl.rErr; rw [if_pos hr, if_neg hb]
      have HOu : Bl.rOut l size at_ n = Bl.txt (Bl.over at_ (min n (size - at_)).toNat l) := by unfold Bl.rOut; rw [if_pos H]
      rw [H, HOu]
      exact refRead_ok v l size at_ n w hv hok hr (by omega) h5 (by omega) (by omega) (by omega) (by omega)
  · have HD : Hid (decide (Bl.right (-1) l) = false) := decide_eq_false hr
    have H : Hid (Bl.rErr l size at_ n = 80) := by show Bl.rErr l size at_ n = 80; unfold Bl.rErr; rw [if_neg hr]
    have HOu : Hid (Bl.rOut l size at_ n = Bl.txt []) := by show Bl.rOut l size at_ n = _; unfold Bl.rOut; rw [H.out, if_neg (by decide)]
    rw [H.out, HOu.out]
    have HV : Hid (FieldsAt w.heap.size w v l) := hv
    obtain ⟨ao, cap, rfl, hm, _⟩ := hv.open
    clear hv
    go_enter Try.func19, Try.ntmps19
    go_wp2_with fail
    refine (right_any _ l _ HV.out hok).mono ?_
    rintro e w1 ⟨rfl, hb1⟩
    rw [HD.out]
    go_wp2
    go_ret2
    exact ⟨rfl, hb1⟩
end Go.Proofs.Ytkkaendfcfkbbaa
