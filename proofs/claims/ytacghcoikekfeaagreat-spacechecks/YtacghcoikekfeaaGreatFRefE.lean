/-
  The document's answer: sextonref10.Remove; the statements' own same.
-/
import Derived.Test.YtacghcoikekfeaaGreatFRefD
namespace Go.Proofs.YtacghcoikekfeaaGreat
open Go.ChangeShapes Go.WideShapes Go.ChangeAt Go.RowKit Go.Deep
set_option maxRecDepth 100000
namespace Fo
theorem take_at {l : List Ent} {k : Nat} {x : Ent} (h : l[k]? = some x) : l.take (k + 1) = l.take k ++ [x] := by
  rw [List.take_add_one, h]
  rfl
theorem er_in {l : List Ent} {k a : Nat} {x : Ent} (h : l[k]? = some x) (hk : ¬ k = a) : (l.take (k + 1)).eraseIdx a = (l.take k).eraseIdx a ++ [x] := by
  have hlen : (l.take k).length = k := by have := (List.getElem?_eq_some_iff.1 h).1; simp; omega
  rw [take_at h]
  by_cases ha : a < k
  · rw [List.eraseIdx_append_of_lt_length (by omega)]
  · rw [List.eraseIdx_append_of_length_le (by omega), hlen, List.eraseIdx_of_length_le (by omega : (l.take k).length ≤ a)]
    obtain ⟨n, hn⟩ : ∃ n, a - k = n + 1 := ⟨a - k - 1, by omega⟩
    rw [hn]
    rfl
theorem er_at {l : List Ent} {k : Nat} {x : Ent} (h : l[k]? = some x) : (l.take (k + 1)).eraseIdx k = (l.take k).eraseIdx k := by
  have hlen : (l.take k).length = k := by have := (List.getElem?_eq_some_iff.1 h).1; simp; omega
  rw [take_at h, List.eraseIdx_append_of_length_le (by omega), hlen, Nat.sub_self, List.eraseIdx_of_length_le (by omega : (l.take k).length ≤ k)]
  simp
theorem er_len (l : List Ent) (k a : Nat) : ((l.take k).eraseIdx a).length ≤ k := Nat.le_trans (List.length_eraseIdx_le _ _) (by simp; omega)
end Fo
abbrev Bx2 (n : Nat) (v : Value) (next : Int) (w : World) : Prop := w.heap[n]? = some (BF v next) ∧ w.heap[n + 1]? = some BZF
theorem Bx2.step {n : Nat} {v : Value} {next : Int} {w w' : World} (h : Bx2 n v next w) (hb : Below w.heap.size w w') : Bx2 n v next w' :=
  ⟨(hb.block _ (Array.getElem?_eq_some_iff.1 h.1).1).trans h.1, (hb.block _ (Array.getElem?_eq_some_iff.1 h.2).1).trans h.2⟩
theorem Bx2.off {n : Nat} {v : Value} {next : Int} {w : World} (h : Bx2 n v next w) : n + 1 < w.heap.size := (Array.getElem?_eq_some_iff.1 h.2).1
theorem bx2_new (w : World) (v : Value) (next : Int) : Bx2 w.heap.size v next ((w.alloc (BF v next)).alloc BZF) ∧ Below w.heap.size w ((w.alloc (BF v next)).alloc BZF) := by
  have z1 : (w.alloc (BF v next)).heap.size = w.heap.size + 1 := by simp
  have h1 := heap_alloc_new w (BF v next)
  have h2 := heap_alloc_new (w.alloc (BF v next)) BZF
  rw [z1] at h2
  exact ⟨⟨(Below.heap_alloc _ _ _ (by omega)).trans h1, h2⟩, ((Below.refl _ w).alloc (Nat.le_refl _) _).alloc (by simp) _⟩
set_option maxHeartbeats 4000000 in
theorem rremove_any (v : Value) (l : List Ent) (next : Int) (s : ByteArray) (w : World) (hv : AtW EE w v l) (hs : ∀ x ∈ l, x.1.size ≤ maxLen) (hn : s.size ≤ maxLen) :
    Calls Tryz.prog 94 #[VD v next, .string s] w fun e w' => ∃ u, e = .returned (.tuple #[VD u (if Fo.findErr l next s = 0 then next else 0), .int .i64 (Fo.findErr l next s)]) ∧
      At EE (fun b => w.heap.size ≤ b) w' u (if Fo.findErr l next s = 0 then l.eraseIdx (Fo.plc l next s).toNat else []) ∧ Below w.heap.size w w' := by
  have hv0 := hv
  obtain ⟨ao, cap, rfl, hm, hx⟩ := hv0.open
  clear hv0
  unfold maxLen at hm
  obtain ⟨m, hlm⟩ : ∃ m, l.length = m := ⟨_, rfl⟩
  rw [hlm] at hm hv ⊢
  have HLM : Hid (l.length = m) := hlm
  clear hlm
  obtain ⟨W, hW⟩ : ∃ W, W = (w.alloc (BF (.slice ao m cap) next)).alloc BZF := ⟨_, rfl⟩
  obtain ⟨HX0, HB0⟩ : Hid (Bx2 w.heap.size (.slice ao m cap) next W) ∧ Hid (Below w.heap.size w W) := by rw [hW]; exact bx2_new w _ next
  have HV : Hid (AtW EE W (.slice ao m cap) l) := hv.up HB0.out
  have HS : Hid (∀ x ∈ l, x.1.size ≤ maxLen) := hs
  have HNN : Hid (s.size ≤ maxLen) := hn
  have HXX : Hid (∀ i x, l[i]? = some x → ∃ b off, ao = some ⟨b, off, none⟩ ∧ True ∧ b < w.heap.size ∧ ∀ k u, (EE.cells x)[k]? = some u → w.cell? ⟨b, off + (i * EE.sz + k), none⟩ = some u) := hx
  obtain ⟨⟨x0, x1⟩, -⟩ := fold_of HX0.out.1
  clear hv hs hn hx
  rcases Fo.ask_or l next s with ⟨ha, hrt, -⟩ | ⟨ha, -⟩ | ⟨ha, -, -⟩
  · have HA : Hid (Fo.ask l next s = 0) := ha
    rcases Fo.at_or (Fo.called s) l with ⟨ht, -⟩ | ⟨k, x, ht, hxk, -, -⟩
    · have HT : Hid (Fo.at' (Fo.called s) l = -1) := ht
      have hE : Fo.findErr l next s = 402 := (Fo.findErr_miss ha ht).1
      rw [hE, if_neg (by decide), if_neg (by decide)]
      clear ha ht hrt hE
      go_enter Tryz.func94, Tryz.ntmps94
      go_wp2_with fail
      rw [← hW]
      refine (asked_any _ l next s _ HV.out HS.out HNN.out).mono ?_
      rintro e w1 ⟨rfl, hb⟩
      rw [HA.out]
      have HB1 : Hid (Below w.heap.size w w1) := HB0.out.trans (hb.mono HB0.out.size)
      have HX1 : Hid (Bx2 w.heap.size (.slice ao m cap) next w1) := HX0.out.step hb
      have HV1 : Hid (AtW EE w1 (.slice ao m cap) l) := HV.out.up hb
      clear hb hW x0 x1
      obtain ⟨⟨y0, y1⟩, -⟩ := fold_of HX1.out.1
      go_wp2_with fail
      refine (rplace_any _ l s _ HV1.out).mono ?_
      rintro e w2 ⟨rfl, hb⟩
      rw [HT.out]
      have HB2 : Hid (Below w.heap.size w w2) := HB1.out.trans (hb.mono HB1.out.size)
      have HX2 : Hid (Bx2 w.heap.size (.slice ao m cap) next w2) := HX1.out.step hb
      have HV2 : Hid (AtW EE w2 (.slice ao m cap) l) := HV1.out.up hb
      clear hb y0 y1
      obtain ⟨⟨z0, z1⟩, -⟩ := fold_of HX2.out.1
      obtain ⟨⟨r0, r1⟩, rf⟩ := fold_of (v := .slice none 0 0) (n := 0) HX2.out.2
      go_wp2
      (try simp only [Exit.inBlock, Exit.then])
      refine bodyPost_ret (v := .tuple #[VD (.slice none 0 0) 0, .int .i64 402]) ?_ rfl ⟨.slice none 0 0, rfl, At.nil, ?_⟩
      · rw [results_cell_tmp rfl]
        go_simp
      · repeat (refine Below.setCell ?_ (by simp) _)
        exact HB2.out
    · have HT : Hid (Fo.at' (Fo.called s) l = k) := ht
      have hE := Fo.findErr_hit ha ht
      have hka := (List.getElem?_eq_some_iff.1 hxk).1
      rw [hE.1, hE.2, if_pos rfl, if_pos rfl, show ((k : Int)).toNat = k from by omega]
      have hm40 : m ≤ 1099511627776 := by
        have := Fo.right_len hrt
        have := hrt.1.2
        have := HLM.out
        omega
      rw [HLM.out] at hka
      obtain ⟨j0, hj, hy0, hy1, hy2⟩ := info_parts finfoE
      clear ha ht hrt hE hxk
      go_enter Tryz.func94, Tryz.ntmps94
      go_wp2_with fail
      rw [← hW]
      refine (asked_any _ l next s _ HV.out HS.out HNN.out).mono ?_
      rintro e w1 ⟨rfl, hb⟩
      rw [HA.out]
      have HB1 : Hid (Below w.heap.size w w1) := HB0.out.trans (hb.mono HB0.out.size)
      have HX1 : Hid (Bx2 w.heap.size (.slice ao m cap) next w1) := HX0.out.step hb
      have HV1 : Hid (AtW EE w1 (.slice ao m cap) l) := HV.out.up hb
      clear hb hW x0 x1
      obtain ⟨⟨y0, y1⟩, -⟩ := fold_of HX1.out.1
      go_wp2_with fail
      refine (rplace_any _ l s _ HV1.out).mono ?_
      rintro e w2 ⟨rfl, hb⟩
      rw [HT.out]
      have HB2 : Hid (Below w.heap.size w w2) := HB1.out.trans (hb.mono HB1.out.size)
      have HX2 : Hid (Bx2 w.heap.size (.slice ao m cap) next w2) := HX1.out.step hb
      have HV2 : Hid (AtW EE w2 (.slice ao m cap) l) := HV1.out.up hb
      clear hb y0 y1
      obtain ⟨⟨z0, z1⟩, -⟩ := fold_of HX2.out.1
      have hs2 := HB2.out.size
      have ho2 := HX2.out.off
      go_wp2
      go_loopw [8, 31] (fun u i wr => ∃ (q : Nat) (pp : Option Addr) (jj qq : Nat), q ≤ m ∧ i = .int .i64 q ∧ u = .slice pp jj qq ∧ Hid (Row EE wr w2.heap.size 69 (.slice pp jj qq) ((l.take q).eraseIdx k)) ∧ Hid (Below w2.heap.size w2 wr)) (fun _ i _ => m - (intOf i).toNat)
      case atStart => exact ⟨0, none, 0, 0, Nat.zero_le _, rfl, rfl, by rw [List.take_zero, List.eraseIdx_nil]; exact Row.nil _ _ _ _, Below.refl _ _⟩
      case round =>
        obtain ⟨q, pp, jj, qq, hq, rfl, rfl, HR, HB⟩ := hrel
        have hsz := HB.out.size
        have HB3 : Hid (Below w.heap.size w wr) := HB2.out.trans (HB.out.mono HB2.out.size)
        by_cases hlt : q < m
        · obtain ⟨x, hxk⟩ : ∃ x, l[q]? = some x := ⟨_, List.getElem?_eq_getElem (by rw [HLM.out]; exact hlt)⟩
          have HXK : Hid (l[q]? = some x) := hxk
          obtain ⟨b2, off, rfl, -, hB, hcx⟩ := HXX.out q x hxk
          have a := fun j u hj => (HB3.out.cell (p := ⟨b2, off + (q * EE.sz + j), none⟩) hB).trans (hcx j u hj)
          have c0 : wr.cell? ⟨b2, off + q * 4, none⟩ = some (.string x.1) := a 0 _ rfl
          have c1 : wr.cell? ⟨b2, off + q * 4 + 1, none⟩ = some (.int .i64 x.2.1) := a 1 _ rfl
          have c2 : wr.cell? ⟨b2, off + q * 4 + 2, none⟩ = some (.int .i64 x.2.2.1) := a 2 _ rfl
          have c3 : wr.cell? ⟨b2, off + q * 4 + 3, none⟩ = some (.int .i64 x.2.2.2) := a 3 _ rfl
          clear a hcx hxk
          have hlt' : (q : Int) < (m : Int) := by omega
          by_cases g : q = k
          · subst g
            have HG : Hid ((l.take (q + 1)).eraseIdx q = (l.take q).eraseIdx q) := Fo.er_at HXK.out
            have HR2 : Hid (Row EE (wr.alloc (BE x)) w2.heap.size 69 (.slice pp jj qq) ((l.take q).eraseIdx q)) := HR.out.up ((Below.refl _ _).alloc (Nat.le_refl _) _)
            go_wp2
            go_roundw
            case rel => exact ⟨q + 1, pp, jj, qq, by omega, by go_num, rfl, by rw [HG.out]; exact HR2.out, HB.out.alloc hsz _⟩
            case measure => simp [intOf]; omega
          · have HG : Hid ((l.take (q + 1)).eraseIdx k = (l.take q).eraseIdx k ++ [x]) := Fo.er_in HXK.out g
            have g1 : ((q : Int) == (k : Int)) = false := by rw [beq_eq_false_iff_ne]; omega
            have g2 : ((q : Int) != (k : Int)) = true := by simp [bne, g1]
            have HLEN : Hid (((l.take q).eraseIdx k).length ≤ q) := Fo.er_len l q k
            have HR3 : Hid (Row EE ((wr.alloc (BE x)).alloc (BE x)) w2.heap.size 69 (.slice pp jj qq) ((l.take q).eraseIdx k)) := (HR.out.up ((Below.refl _ _).alloc (Nat.le_refl _) _)).up ((Below.refl _ _).alloc (Nat.le_refl _) _)
            have HB4 : Hid (Below w2.heap.size w2 ((wr.alloc (BE x)).alloc (BE x))) := (HB.out.alloc hsz _).alloc (by simp; omega) _
            have HO : Hid (AtW EE ((wr.alloc (BE x)).alloc (BE x)) (.slice (some ⟨wr.heap.size + 1, 0, none⟩) 1 1) [x]) := by
              have h2 := heap_alloc_new (wr.alloc (BE x)) (BE x)
              rw [show (wr.alloc (BE x)).heap.size = wr.heap.size + 1 by simp] at h2
              exact at_one h2
            clear g
            go_wp2_with (at_builtin; refine wpList_row _ rfl _ _ 63 rfl EE (fun _ => True) w2.heap.size 69 j0 _ 40 Tryz.underlying63 hj hy0 hy1 hy2 rfl _ ((l.take q).eraseIdx k) rfl HR3.out _ [x] rfl HO.out (by have := HLEN.out; unfold maxLen; simp only [List.length_cons, List.length_nil]; omega) (by have := HLEN.out; simp only [List.length_cons, List.length_nil]; omega) (by simp; omega) ?_; intro v7 w7 hrow7 hg7 hloc7)
            have HEND : Hid (Row EE w7 w2.heap.size 69 v7 ((l.take (q + 1)).eraseIdx k) ∧ Below w2.heap.size w2 w7) := ⟨by rw [HG.out]; exact hrow7, HB4.out.grown hg7 (by simp; omega) (fun k hk => (HR3.out.lt k hk).1)⟩
            clear hrow7 hg7 hloc7
            obtain ⟨p7, n7, c7, rfl⟩ := HEND.out.1.slice3
            go_wp2
            go_roundw
            case rel => exact ⟨q + 1, p7, n7, c7, by omega, by go_num, rfl, HEND.out.1, HEND.out.2⟩
            case measure => simp [intOf]; omega
        · obtain rfl : m = q := by omega
          have HX3 : Hid (Bx2 w.heap.size (.slice ao m cap) next wr) := HX2.out.step HB.out
          obtain ⟨⟨r0, r1⟩, rf⟩ := fold_of (v := .slice none 0 0) (n := 0) HX3.out.2
          obtain ⟨⟨y0, y1⟩, -⟩ := fold_of HX3.out.1
          have HEND : Hid (At EE (fun b => w2.heap.size ≤ b) wr (.slice pp jj qq) (l.eraseIdx k)) := by
            have := HR.out.at
            rw [← HLM.out, List.take_length] at this
            exact this
          go_wp2
          (try simp only [Exit.inBlock, Exit.then])
          refine bodyPost_ret (v := .tuple #[VD (.slice pp jj qq) next, .int .i64 0]) ?_ rfl ⟨.slice pp jj qq, rfl, ?_, ?_⟩
          · rw [results_cell_tmp rfl]
            go_simp
          · refine At.imp (S := fun b => w2.heap.size ≤ b) ?_ (fun b hb _ => by omega)
            repeat (refine At.setCellF ?_ (by simp; omega) _)
            exact HEND.out
          · repeat (refine Below.setCell ?_ (by simp) _)
            exact HB3.out
  · have HA : Hid (Fo.ask l next s = 4) := ha
    rw [(Fo.findErr_ask ha (by decide)).1, if_neg (by decide), if_neg (by decide)]
    clear ha
    go_enter Tryz.func94, Tryz.ntmps94
    go_wp2_with fail
    rw [← hW]
    refine (asked_any _ l next s _ HV.out HS.out HNN.out).mono ?_
    rintro e w1 ⟨rfl, hb⟩
    rw [HA.out]
    have HB1 : Hid (Below w.heap.size w w1) := HB0.out.trans (hb.mono HB0.out.size)
    have HX1 : Hid (Bx2 w.heap.size (.slice ao m cap) next w1) := HX0.out.step hb
    have HV1 : Hid (AtW EE w1 (.slice ao m cap) l) := HV.out.up hb
    clear hb hW x0 x1
    obtain ⟨⟨r0, r1⟩, rf⟩ := fold_of (v := .slice none 0 0) (n := 0) HX1.out.2
    go_wp2
    (try simp only [Exit.inBlock, Exit.then])
    refine bodyPost_ret (v := .tuple #[VD (.slice none 0 0) 0, .int .i64 4]) ?_ rfl ⟨.slice none 0 0, rfl, At.nil, ?_⟩
    · rw [results_cell_tmp rfl]
      go_simp
    · repeat (refine Below.setCell ?_ (by simp) _)
      exact HB1.out
  · have HA : Hid (Fo.ask l next s = 409) := ha
    rw [(Fo.findErr_ask ha (by decide)).1, if_neg (by decide), if_neg (by decide)]
    clear ha
    go_enter Tryz.func94, Tryz.ntmps94
    go_wp2_with fail
    rw [← hW]
    refine (asked_any _ l next s _ HV.out HS.out HNN.out).mono ?_
    rintro e w1 ⟨rfl, hb⟩
    rw [HA.out]
    have HB1 : Hid (Below w.heap.size w w1) := HB0.out.trans (hb.mono HB0.out.size)
    have HX1 : Hid (Bx2 w.heap.size (.slice ao m cap) next w1) := HX0.out.step hb
    have HV1 : Hid (AtW EE w1 (.slice ao m cap) l) := HV.out.up hb
    clear hb hW x0 x1
    obtain ⟨⟨r0, r1⟩, rf⟩ := fold_of (v := .slice none 0 0) (n := 0) HX1.out.2
    go_wp2
    (try simp only [Exit.inBlock, Exit.then])
    refine bodyPost_ret (v := .tuple #[VD (.slice none 0 0) 0, .int .i64 409]) ?_ rfl ⟨.slice none 0 0, rfl, At.nil, ?_⟩
    · rw [results_cell_tmp rfl]
      go_simp
    · repeat (refine Below.setCell ?_ (by simp) _)
      exact HB1.out
end Go.Proofs.YtacghcoikekfeaaGreat
