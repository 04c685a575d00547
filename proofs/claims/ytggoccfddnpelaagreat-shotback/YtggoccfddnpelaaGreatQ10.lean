/- NFil, Bytes, NByt, NChk, EPlain, TPlain, TPlainP, as one. -/
import Derived.Test.YtggoccfddnpelaaGreatQ9
namespace Go.Proofs.YtggoccfddnpelaaGreat
open Go.ChangeShapes Go.WideShapes Go.ChangeAt Go.RowKit Go.Deep It
set_option maxRecDepth 100000
set_option maxRecDepth 100000 in
theorem usedR_any {S : Nat → Prop} (v : Value) (L : List Rw) (w : World) (hv : TabAt S w v L) (hL : L.length ≤ 1466015503701) :
    Calls Tryz.prog 120 #[v] w fun e w' => ∃ u, e = .returned u ∧ Row EH w' w.heap.size 55 u (used (pl L)) ∧ Below w.heap.size w w' := by
  obtain ⟨i0, hi, hz0, hz1, hz2⟩ := info_parts infoH
  obtain ⟨ao, cap, rfl, hm, hx⟩ := hv.open
  clear hv
  unfold maxLen at hm
  obtain ⟨n, hn⟩ : ∃ n, L.length = n := ⟨_, rfl⟩
  rw [hn] at hm hL ⊢
  have HN : Hid (L.length = n) := hn
  have HX : Hid (∀ i x, L[i]? = some x → (∃ b off, ao = some ⟨b, off, none⟩ ∧ b < w.heap.size ∧ eight w b (off + i * 8) x) ∧ Good S w x) := hx
  clear hn hx
  go_enter Tryz.func120, Tryz.ntmps120
  go_wp2
  go_loopw [3, 8] (fun u i wr => ∃ k : Nat, k ≤ n ∧ i = .int .i64 k ∧ Row EH wr w.heap.size 55 u (used ((pl L).take k)) ∧ Hid (Below w.heap.size w wr)) (fun _ i _ => n - (intOf i).toNat)
  case atStart => exact ⟨0, Nat.zero_le _, rfl, Row.nil _ _ _ _, Below.refl _ _⟩
  case round =>
    obtain ⟨k, hk, rfl, hrow, HB⟩ := hrel
    by_cases hlt : k < n
    · have h0 : L[k]? = some (L[k]'(by have := HN.out; omega)) := List.getElem?_eq_getElem _
      obtain ⟨y, hyk⟩ : ∃ y, L[k]? = some y := ⟨_, h0⟩
      clear h0
      obtain ⟨⟨b, off, rfl, hB', hc'⟩, _⟩ := HX.out k y hyk
      obtain ⟨d0, d1, d2, d3, d4, d5, d6, d7⟩ := hc'.below HB.out hB'
      have HU := It.used_take_succ (It.pl_get hyk)
      have hul := It.used_length ((pl L).take k)
      rw [List.length_take] at hul
      obtain ⟨pu, cu, hu⟩ := hrow.slice
      generalize used ((pl L).take k) = O at hrow hu HU hul
      obtain ⟨q, hq⟩ : ∃ q, O.length = q := ⟨_, rfl⟩
      have HQ : Hid (O.length = q) := hq
      rw [hq] at hu hul
      have hqk : q ≤ k := by omega
      subst hu
      have hlt' : (k : Int) < (n : Int) := by omega
      clear hyk hc' hq hul
      by_cases hkd : y.i.kind = 0
      · rw [if_pos hkd, List.append_nil] at HU
        have hkd' : (y.i.kind == 0) = true := by simp [hkd]
        have HU2 : Hid (used ((pl L).take (k + 1)) = O) := HU
        have HR : Hid (Row EH wr w.heap.size 55 (.slice pu q cu) O) := hrow
        clear hkd HU hrow
        go_wp2
        go_roundw
        case rel => exact ⟨k + 1, by omega, by go_num, by rw [HU2.out]; exact HR.out.still (World.grownBy_alloc _ _ _), HB.out.alloc HB.out.size _⟩
        case measure => simp [intOf]; omega
      · rw [if_neg hkd] at HU
        have hkd' : (y.i.kind == 0) = false := by simp [hkd]
        have HU2 : Hid (used ((pl L).take (k + 1)) = O ++ [((k : Int), y.i.gen)]) := HU
        have HR : Hid (Row EH wr w.heap.size 55 (.slice pu q cu) O) := hrow
        have hbs := HB.out.size
        obtain ⟨OB, hOB⟩ : ∃ OB, OB = (Obj.cells #[.int .i64 y.i.gen, .int .i64 y.i.kind, .int .i64 y.i.links, .int .i64 y.i.size, .int .i64 y.i.stamp, .slice y.rp y.rn y.rc, .slice y.ep y.en y.ec, .int .i64 y.i.next] 52) := ⟨_, rfl⟩
        have HI : Hid (AtW EH ((wr.alloc OB).alloc (BH k y.i.gen)) (.slice (some ⟨wr.heap.size + 1, 0, none⟩) 1 1) [((k : Int), y.i.gen)]) := by
          refine one_hand _ _ _ _ ?_
          have := heap_alloc_new (wr.alloc OB) (BH k y.i.gen)
          rw [show (wr.alloc OB).heap.size = wr.heap.size + 1 by simp] at this
          exact this
        rw [hOB] at HI
        clear hkd HU hrow hOB
        go_wp2_with (at_builtin; refine wpList_row _ rfl _ _ 142 rfl EH (fun _ => True) w.heap.size 55 i0 (.agg #[.int .i64 0, .int .i64 0]) 16 Tryz.underlying142 hi hz0 hz1 hz2 rfl (.slice pu q cu) O rfl ((HR.out.still (World.grownBy_alloc _ _ _)).still (World.grownBy_alloc _ _ _)) _ [((k : Int), y.i.gen)] rfl HI.out (by have := HQ.out; unfold maxLen; simp; omega) (by have := HQ.out; simp; omega) (by simp; omega) ?_; intro v7 w7 hrow7 hg7 hmv7)
        have HB7 : Hid (Below w.heap.size w w7) := ((HB.out.alloc hbs _).alloc (by simp; omega) _).grown hg7 (by simp; omega) (fun i hi => (HR.out.lt i hi).1)
        have HR7 : Hid (Row EH w7 w.heap.size 55 v7 (O ++ [((k : Int), y.i.gen)])) := hrow7
        clear hrow7 hg7 hmv7
        go_wp2
        go_roundw
        case rel => exact ⟨k + 1, by omega, by go_num, by rw [HU2.out]; exact HR7.out, HB7⟩
        case measure => simp [intOf]; omega
    · obtain rfl : k = n := by omega
      have HE : Hid (Row EH wr w.heap.size 55 u3 (used (pl L)) ∧ Below w.heap.size w wr) := by
        have h := hrow
        rw [List.take_of_length_le (by have := HN.out; simp only [pl, List.length_map]; omega)] at h
        exact ⟨h, HB.out⟩
      obtain ⟨pu, cu, hu⟩ := hrow.slice
      generalize (used ((pl L).take k)).length = q at hu
      subst hu
      clear hrow
      go_wp2
      go_ret
      exact ⟨_, rfl, HE.out⟩
namespace Nf
def fileAt (L : List Ino) (h : Int × Int) : Bool := match L[h.1.toNat]? with | some x => x.kind == 1 | none => false
def files (L : List Ino) : List (Int × Int) := (used L).filter (fileAt L)
end Nf
abbrev BSl (v : Value) (t : TypeId) : Obj := .cells #[v] t
theorem sl_of {w : World} {A : Nat} {v : Value} {t : TypeId} (h : w.heap[A]? = some (BSl v t)) : w.cell? ⟨A, 0, none⟩ = some v := by simp [World.cell?, h]
set_option maxHeartbeats 2000000 in
theorem files1_any {S : Nat → Prop} (v : Value) (L : List Rw) (no gen : Int) (A : Nat) (w : World) (hv : TabAt S w v L) (hA : w.heap[A]? = some (BSl v 23)) (hn : names (pl L) no gen = true) :
    Calls Tryz.prog 122 #[.agg #[.int .i64 no, .int .i64 gen], .pointer (some ⟨A, 0, none⟩)] w fun e w' => e = .returned (.bool (!Nf.fileAt (pl L) (no, gen))) ∧ Below w.heap.size w w' := by
  obtain ⟨k, x, hx, hno, -, -⟩ := names_iff.1 hn
  obtain ⟨y, hy, hyi⟩ := Sp.pl_some hx
  have hf : Nf.fileAt (pl L) (no, gen) = (y.i.kind == 1) := by
    unfold Nf.fileAt
    rw [hno, show ((k : Int), gen).1.toNat = k by show ((k : Int)).toNat = k; omega, hx, hyi]
  rw [hf]
  obtain ⟨ao, cap, rfl, hm, hxx⟩ := hv.open
  obtain ⟨⟨b, off, rfl, hB, c0, c1, c2, c3, c4, c5, c6, c7⟩, -⟩ := hxx k y hy
  have hkl : (k : Int) < (L.length : Int) := by have := (List.getElem?_eq_some_iff.1 hy).1; omega
  have hA0 := sl_of hA
  have hAl := (Array.getElem?_eq_some_iff.1 hA).1
  subst hno
  obtain ⟨kd, hkd⟩ : ∃ kd, y.i.kind = kd := ⟨_, rfl⟩
  rw [hkd] at c1 ⊢
  obtain ⟨n, hn'⟩ : ∃ n, L.length = n := ⟨_, rfl⟩
  rw [hn'] at hkl hA0
  have e0 : (!(kd == 1)) = (kd != 1) := rfl
  rw [e0]
  clear hv hxx hn hx hyi hf hm hA c0 c2 c3 c4 c5 c6 c7 hkd e0
  go_enter Tryz.func122, Tryz.ntmps122
  go_wp2
  go_ret
  exact ⟨rfl, (Below.refl _ _).alloc (Nat.le_refl _) _⟩
set_option maxHeartbeats 2000000 in
theorem files_any {S : Nat → Prop} (v : Value) (L : List Rw) (w : World) (hv : TabAt S w v L) (hL : L.length ≤ 24) :
    Calls Tryz.prog 92 #[v] w fun e w' => ∃ u, e = .returned u ∧ AtW EH w' u (Nf.files (pl L)) ∧ Below w.heap.size w w' := by
  have HV : Hid (TabAt S w v L) := hv
  have HL : Hid (L.length ≤ 24) := hL
  obtain ⟨W, hW⟩ : ∃ W, W = w.alloc (BSl v 23) := ⟨_, rfl⟩
  have HB0 : Hid (Below w.heap.size w W) := by show Below w.heap.size w W; rw [hW]; exact (Below.refl _ w).alloc (Nat.le_refl _) _
  have HA0 : Hid (W.heap[w.heap.size]? = some (BSl v 23)) := by show W.heap[w.heap.size]? = _; rw [hW]; exact heap_alloc_new _ _
  have hla := (Array.getElem?_eq_some_iff.1 HA0.out).1
  have hA0 := sl_of HA0.out
  obtain ⟨ao, cap, rfl, -, -⟩ := hv.open
  obtain ⟨n, hn⟩ : ∃ n, L.length = n := ⟨_, rfl⟩
  rw [hn] at HV HA0 hA0 hW ⊢
  clear hv hL hn
  go_enter Tryz.func92, Tryz.ntmps92
  go_wp2_with fail
  rw [← hW]
  clear hW hA0
  refine (usedR_any _ L _ (HV.out.up HB0.out) (by have := HL.out; omega)).mono ?_
  rintro e w2 ⟨u2, rfl, hu2, hb2⟩
  have HU2 : Hid (Row EH w2 W.heap.size 55 u2 (used (pl L))) := hu2
  have HB2 : Hid (Below W.heap.size W w2) := hb2
  obtain ⟨p2, c2, hs2⟩ := hu2.slice
  have hul : (used (pl L)).length ≤ 24 := by
    have h1 := It.used_length (pl L)
    have h2 := HL.out
    rw [List.length_map] at h1
    omega
  have HUL : Hid ((used (pl L)).length ≤ 1000) := by show _ ≤ _; omega
  obtain ⟨m, hm⟩ : ∃ m, (used (pl L)).length = m := ⟨_, rfl⟩
  rw [hm] at hs2
  subst hs2
  clear hu2 hb2 hm hul
  go_wp2_with fail
  refine (del_any _ (used (pl L)) (fun h => !Nf.fileAt (pl L) h) w.heap.size W.heap.size _ HU2.out HB2.out.size HUL.out (fun x hx V hb => ?_)).mono ?_
  · have hWV : Below W.heap.size W V := HB2.out.trans hb
    exact files1_any _ L x.1 x.2 w.heap.size V ((HV.out.up HB0.out).up hWV) ((hWV.block _ hla).trans HA0.out) (mem_used.1 hx)
  rintro e w3 ⟨u3, rfl, hu3, hb3⟩
  have HB3 : Hid (Below w.heap.size w w3) := HB0.out.trans ((HB2.out.trans hb3).mono HB0.out.size)
  have HU3 : Hid (AtW EH w3 u3 (Nf.files (pl L))) := by
    show AtW EH w3 u3 (Nf.files (pl L))
    have e : Nf.files (pl L) = (used (pl L)).filter fun x => !(!Nf.fileAt (pl L) x) := by
      unfold Nf.files
      refine List.filter_congr fun x _ => ?_
      simp
    rw [e]
    exact hu3
  obtain ⟨p3, c3, hs3, -, -⟩ := hu3.open
  obtain ⟨m3, hm3⟩ : ∃ m, ((used (pl L)).filter fun x => !(!Nf.fileAt (pl L) x)).length = m := ⟨_, rfl⟩
  rw [hm3] at hs3
  subst hs3
  clear hu3 hb3 hm3
  go_wp2
  go_ret
  exact ⟨_, rfl, HU3.out, HB3.out⟩
end Go.Proofs.YtggoccfddnpelaaGreat
namespace Go.Proofs.YtggoccfddnpelaaGreat
open Go.ChangeShapes Go.WideShapes Go.ChangeAt Go.RowKit Go.Deep
set_option maxRecDepth 100000
set_option maxHeartbeats 1000000 in
theorem bbytes_any (v : Value) (l : List Bl.R) (w : World) (hv : FieldsAt w.heap.size w v l) :
    Calls Tryz.prog 99 #[v] w fun e w' => e = .returned (.int .i64 (Bl.sumw l)) ∧ Below w.heap.size w w' := by
  obtain ⟨ao, cap, rfl, hm, hx⟩ := hv.open
  clear hv
  unfold maxLen at hm
  obtain ⟨n, hn⟩ : ∃ n, l.length = n := ⟨_, rfl⟩
  rw [hn] at hm hx ⊢
  have HN : Hid (l.length = n) := hn
  have HX : Hid (∀ j, j < n → ∃ b off, ao = some ⟨b, off, none⟩ ∧ b < w.heap.size ∧ w.cell? ⟨b, off + j * 2, none⟩ = some (.int .i64 (l.getD j (0, .empty)).1) ∧ w.cell? ⟨b, off + j * 2 + 1, none⟩ = some (.string (l.getD j (0, .empty)).2)) := hx
  clear hn hx
  go_enter Tryz.func99, Tryz.ntmps99
  go_wp2
  go_loopw [3, 8] (fun t i wr => ∃ (k : Nat) (y : Int), k ≤ n ∧ i = .int .i64 k ∧ t = .int .i64 y ∧ y = Bl.sumw (l.take k) ∧ Below w.heap.size w wr) (fun _ i _ => n - (intOf i).toNat)
  case atStart => exact ⟨0, _, Nat.zero_le _, rfl, rfl, rfl, Below.refl _ _⟩
  case round =>
    obtain ⟨k, y, hk, rfl, rfl, hy, hbl⟩ := hrel
    have HY : Hid (y = Bl.sumw (l.take k)) := hy
    clear hy
    have hsz := hbl.size
    by_cases hlt : k < n
    · obtain ⟨b, off, rfl, hB, c0, c1⟩ := HX.out k hlt
      have hk' : k < l.length := by rw [HN.out]; exact hlt
      rw [← hbl.cell (p := ⟨b, off + k * 2, none⟩) hB] at c0
      rw [← hbl.cell (p := ⟨b, off + k * 2 + 1, none⟩) hB] at c1
      obtain ⟨x, hxk⟩ : ∃ x, l.getD k (0, .empty) = x := ⟨_, rfl⟩
      rw [hxk] at c0 c1
      have HS : Hid (Bl.sumw (l.take (k + 1)) = wrap64 (Bl.sumw (l.take k) + (x.2.size : Int))) := Bl.sumw_succ hk' hxk
      clear hxk
      obtain ⟨t, s'⟩ := x
      simp only at c0 c1 HS
      have hlt' : (k : Int) < (n : Int) := by omega
      go_wp2
      go_roundw
      case rel => exact ⟨k + 1, _, by omega, by go_num, rfl, by rw [HS.out, ← HY.out], hbl.alloc hsz _⟩
      case measure => simp [intOf]; omega
    · obtain rfl : k = n := by omega
      go_wp2
      go_ret
      have h := HY.out
      rw [← HN.out, List.take_length] at h
      rw [h]
      exact ⟨rfl, hbl⟩
end Go.Proofs.YtggoccfddnpelaaGreat
namespace Go.Proofs.YtggoccfddnpelaaGreat
open Go.ChangeShapes Go.WideShapes Go.ChangeAt Go.RowKit Go.Deep It
set_option maxRecDepth 100000
namespace It
/-- The bytes of all runs, as a sum that goes round. -/
def allBytes (L : List Ino) : Int := L.foldl (fun y x => wrap64 (y + Bl.sumw x.runs)) 0
theorem bytes_succ {L : List Ino} {k : Nat} {x : Ino} (h : L[k]? = some x) : allBytes (L.take (k + 1)) = wrap64 (allBytes (L.take k) + Bl.sumw x.runs) := by
  unfold allBytes
  rw [take_succ h, List.foldl_append]
  rfl
end It
set_option maxHeartbeats 2000000 in
theorem ibytes_any {S : Nat → Prop} (v : Value) (L : List Rw) (w : World) (hv : TabAt S w v L) :
    Calls Tryz.prog 65 #[v] w fun e w' => e = .returned (.int .i64 (allBytes (pl L))) ∧ Below w.heap.size w w' := by
  obtain ⟨ao, cap, rfl, hm, hx⟩ := hv.open
  clear hv
  unfold maxLen at hm
  obtain ⟨n, hn⟩ : ∃ n, L.length = n := ⟨_, rfl⟩
  rw [hn] at hm ⊢
  have HN : Hid (L.length = n) := hn
  have HX : Hid (∀ i x, L[i]? = some x → (∃ b off, ao = some ⟨b, off, none⟩ ∧ b < w.heap.size ∧ eight w b (off + i * 8) x) ∧ Good S w x) := hx
  clear hn hx
  go_enter Tryz.func65, Tryz.ntmps65
  go_wp2
  go_loopw [3, 8] (fun t i wr => ∃ (k : Nat) (y : Int), k ≤ n ∧ i = .int .i64 k ∧ t = .int .i64 y ∧ y = allBytes ((pl L).take k) ∧ Below w.heap.size w wr) (fun _ i _ => n - (intOf i).toNat)
  case atStart => exact ⟨0, 0, Nat.zero_le _, rfl, rfl, rfl, Below.refl _ _⟩
  case round =>
    obtain ⟨k, y, hk, rfl, rfl, hy, hbl⟩ := hrel
    have HY : Hid (y = allBytes ((pl L).take k)) := hy
    have hsz := hbl.size
    clear hy
    by_cases hlt : k < n
    · obtain ⟨x, hxk⟩ : ∃ y, L[k]? = some y := ⟨_, List.getElem?_eq_getElem (by rw [HN.out]; exact hlt)⟩
      obtain ⟨⟨b, off, rfl, hB, hc⟩, hg⟩ := HX.out k x hxk
      obtain ⟨d0, d1, d2, d3, d4, d5, d6, d7⟩ := hc.below hbl hB
      have HS : Hid (allBytes ((pl L).take (k + 1)) = wrap64 (allBytes ((pl L).take k) + Bl.sumw x.i.runs)) := bytes_succ (It.pl_get hxk)
      have HGX : Hid (Good S wr x) := hg.up hbl
      obtain ⟨X, hX⟩ : ∃ X, X = x := ⟨_, rfl⟩
      rw [← hX] at HS HGX
      have hrr : (Value.slice x.rp x.rn x.rc) = .slice X.rp X.rn X.rc := by rw [hX]
      obtain ⟨⟨g, kk, l, s, t, rs, es, nx⟩, rp, rn, rc, ep, en, ec⟩ := x
      simp only at d0 d1 d2 d3 d4 d5 d6 d7 hrr
      have HRF : Hid (FieldsAt (wr.alloc (B8 g kk l s t (.slice rp rn rc) (.slice ep en ec) nx)).heap.size (wr.alloc (B8 g kk l s t (.slice rp rn rc) (.slice ep en ec) nx)) (.slice rp rn rc) X.i.runs) := by
        show FieldsAt _ _ _ _
        rw [hrr]
        exact (HGX.out.1.up ((Below.refl _ _).alloc (Nat.le_refl _) _)).fields
      have hlt' : (k : Int) < (n : Int) := by omega
      clear hxk hc hg hB hX hrr
      go_wp2_with fail
      refine (bbytes_any _ X.i.runs _ HRF.out).mono ?_
      rintro e w2 ⟨rfl, hb2⟩
      have HB2 : Hid (Below w.heap.size w w2) := (hbl.alloc hsz _).trans (hb2.mono (by simp; omega))
      clear hb2
      obtain ⟨sm, hsm⟩ : ∃ sm, Bl.sumw X.i.runs = sm := ⟨_, rfl⟩
      rw [hsm] at HS ⊢
      clear hsm
      go_wp2
      go_roundw
      case rel => exact ⟨k + 1, _, by omega, by go_num, rfl, by rw [HS.out, ← HY.out], HB2.out⟩
      case measure => simp [intOf]; omega
    · obtain rfl : k = n := by omega
      have HE : Hid (y = allBytes (pl L)) := by
        have h := HY.out
        rw [List.take_of_length_le (by simp [pl, HN.out])] at h
        exact h
      go_wp2
      go_ret
      exact ⟨by rw [HE.out]; rfl, hbl⟩
abbrev VSt (vi vo vs : Value) (dn : Int) : Value := .agg #[vi, vo, vs, .int .i64 dn]
abbrev BSt (vi vo vs : Value) (dn : Int) : Obj := .cells #[vi, vo, vs, .int .i64 dn] 27
theorem st_of {w : World} {A : Nat} {vi vo vs : Value} {dn : Int} (h : w.heap[A]? = some (BSt vi vo vs dn)) :
    w.cell? ⟨A, 0, none⟩ = some vi ∧ w.cell? ⟨A, 1, none⟩ = some vo ∧ w.cell? ⟨A, 2, none⟩ = some vs ∧ w.cell? ⟨A, 3, none⟩ = some (.int .i64 dn) := by
  refine ⟨?_, ?_, ?_, ?_⟩ <;> simp [World.cell?, h]
namespace Nf
def linksAt (L : List Ino) (h : Int × Int) : Int := match L[h.1.toNat]? with | some x => x.links | none => 0
def needB (L : List Ino) (O : List Os.Opn) (h : Int × Int) : Bool := decide (0 < linksAt L h) || decide (0 < ((Os.Op.held O h.1 h.2 : Nat) : Int))
def filesOk (L : List Ino) (O : List Os.Opn) : Bool := !(O.any fun x => !decide ((x.2.2.1, x.2.2.2) ∈ files L)) && !((files L).any fun h => !needB L O h)
def doneOk (L : List Ino) (dn : Int) : Bool := decide (0 ≤ dn ∧ dn ≤ 1099511627776) && !(L.any fun x => decide (dn < x.stamp))
/-- A state is right. -/
noncomputable def right (L : List Ino) (O : List Os.Opn) (dn : Int) : Bool := Sp.isSp L && (Os.Op.right 0 O && (filesOk L O && (decide (allBytes L ≤ 8192) && doneOk L dn)))
end Nf
set_option maxHeartbeats 2000000 in
theorem needed_any {S : Nat → Prop} (vi vo : Value) (sp : Option Addr) (sn sc : Nat) (dn : Int) (L : List Rw) (O : List Os.Opn) (no gen : Int) (w : World) (hv : TabAt S w vi L) (ho : AtW Os.EO w vo O) (hn : names (pl L) no gen = true) :
    Calls Tryz.prog 96 #[VSt vi vo (.slice sp sn sc) dn, .agg #[.int .i64 no, .int .i64 gen]] w fun e w' => e = .returned (.bool (Nf.needB (pl L) O (no, gen))) ∧ Below w.heap.size w w' := by
  obtain ⟨k, x, hx, hno, -, -⟩ := names_iff.1 hn
  obtain ⟨y, hy, hyi⟩ := Sp.pl_some hx
  have hf : Nf.needB (pl L) O (no, gen) = (decide (0 < y.i.links) || decide (0 < ((Os.Op.held O no gen : Nat) : Int))) := by
    unfold Nf.needB Nf.linksAt
    rw [hno, show ((k : Int), gen).1.toNat = k by show ((k : Int)).toNat = k; omega, hx, hyi]
  rw [hf]
  obtain ⟨W, hW⟩ : ∃ W, W = (w.alloc (BSt vi vo (.slice sp sn sc) dn)).alloc (BH no gen) := ⟨_, rfl⟩
  have HB0 : Hid (Below w.heap.size w W) := by show Below w.heap.size w W; rw [hW]; exact ((Below.refl _ w).alloc (Nat.le_refl _) _).alloc (by simp) _
  have HO : Hid (AtW Os.EO W vo O) := ho.up HB0.out
  have HA0 : Hid (W.heap[w.heap.size]? = some (BSt vi vo (.slice sp sn sc) dn) ∧ W.heap[w.heap.size + 1]? = some (BH no gen)) := by
    rw [hW]
    refine ⟨(Below.heap_alloc _ _ _ (by simp)).trans (heap_alloc_new _ _), ?_⟩
    have := heap_alloc_new (w.alloc (BSt vi vo (.slice sp sn sc) dn)) (BH no gen)
    rwa [show (w.alloc (BSt vi vo (.slice sp sn sc) dn)).heap.size = w.heap.size + 1 by simp] at this
  obtain ⟨ao, cap, rfl, hm, hxx⟩ := hv.open
  obtain ⟨⟨b, off, rfl, hB, c0, c1, c2, c3, c4, c5, c6, c7⟩, -⟩ := hxx k y hy
  obtain ⟨oo, oc, rfl, -, -⟩ := ho.open
  have hkl : (k : Int) < (L.length : Int) := by have := (List.getElem?_eq_some_iff.1 hy).1; omega
  subst hno
  obtain ⟨lk, hlk⟩ : ∃ lk, y.i.links = lk := ⟨_, rfl⟩
  rw [hlk] at c2 ⊢
  obtain ⟨n, hn'⟩ : ∃ n, L.length = n := ⟨_, rfl⟩
  obtain ⟨m, hm'⟩ : ∃ m, O.length = m := ⟨_, rfl⟩
  rw [hn'] at hkl HA0 hW ⊢
  rw [hm'] at HA0 hW HO ⊢
  obtain ⟨a0, a1, a2, a3⟩ := st_of HA0.out.1
  obtain ⟨⟨h0, h1⟩, -⟩ := two_of HA0.out.2
  have hl0 := (Array.getElem?_eq_some_iff.1 HA0.out.1).1
  have hl1 := (Array.getElem?_eq_some_iff.1 HA0.out.2).1
  clear hv hxx hn hx hyi hf hm ho c0 c1 c3 c4 c5 c6 c7 hlk
  by_cases hp : 0 < lk
  · rw [decide_eq_true hp]
    go_enter Tryz.func96, Tryz.ntmps96
    go_wp2
    go_ret
    refine ⟨rfl, ?_⟩
    have h := HB0.out
    rw [hW] at h
    exact h
  · rw [decide_eq_false hp]
    obtain ⟨q, hq⟩ : ∃ q : Nat, Os.Op.held O (k : Int) gen = q := ⟨_, rfl⟩
    have HQ : Hid (Os.Op.held O (k : Int) gen = q) := hq
    rw [hq]
    clear hq
    go_enter Tryz.func96, Tryz.ntmps96
    go_wp2_with fail
    rw [← hW]
    refine (Os.held_any _ O (k : Int) gen _ HO.out).mono ?_
    rintro e w1 ⟨rfl, hb1⟩
    rw [HQ.out]
    have HB1 : Hid (Below w.heap.size w w1) := HB0.out.trans (hb1.mono HB0.out.size)
    clear hb1
    go_wp2
    go_ret
    exact ⟨by simp, HB1.out⟩
set_option maxHeartbeats 2000000 in
theorem rf1_any (u : Value) (U : List (Int × Int)) (x : Os.Opn) (A : Nat) (w : World) (hu : AtW EH w u U) (hA : w.heap[A]? = some (BSl u 142)) :
    Calls Tryz.prog 93 #[.agg #[.int .i64 x.1, .int .i64 x.2.1, .int .i64 x.2.2.1, .int .i64 x.2.2.2], .pointer (some ⟨A, 0, none⟩)] w fun e w' => e = .returned (.bool (!decide ((x.2.2.1, x.2.2.2) ∈ U))) ∧ Below w.heap.size w w' := by
  obtain ⟨x0, x1, x2, x3⟩ := x
  have hA0 := sl_of hA
  have hAl := (Array.getElem?_eq_some_iff.1 hA).1
  have HU : Hid (AtW EH (w.alloc (Os.BO (x0, x1, x2, x3))) u U) := hu.up ((Below.refl _ _).alloc (Nat.le_refl _) _)
  obtain ⟨p, c, rfl, -, -⟩ := hu.open
  obtain ⟨r, hr⟩ : ∃ r, decide ((x2, x3) ∈ U) = r := ⟨_, rfl⟩
  have HR : Hid (decide ((x2, x3) ∈ U) = r) := hr
  simp only
  rw [hr]
  obtain ⟨n, hn⟩ : ∃ n, U.length = n := ⟨_, rfl⟩
  rw [hn] at hA0 HU
  clear hu hA hr hn
  go_enter Tryz.func93, Tryz.ntmps93
  go_wp2_with fail
  refine (contains_any _ U x2 x3 _ HU.out).mono ?_
  rintro e w1 ⟨rfl, hb1⟩
  rw [HR.out]
  have HB1 : Hid (Below w.heap.size w w1) := ((Below.refl _ w).alloc (Nat.le_refl _) _).trans (hb1.mono (by simp))
  clear hb1
  go_wp2
  go_ret
  exact ⟨rfl, HB1.out⟩
set_option maxHeartbeats 2000000 in
theorem rf2_any {S : Nat → Prop} (vi vo : Value) (sp : Option Addr) (sn sc : Nat) (dn : Int) (L : List Rw) (O : List Os.Opn) (no gen : Int) (A : Nat) (w : World) (hv : TabAt S w vi L) (ho : AtW Os.EO w vo O) (hn : names (pl L) no gen = true) (hA : w.heap[A]? = some (BSt vi vo (.slice sp sn sc) dn)) :
    Calls Tryz.prog 95 #[.agg #[.int .i64 no, .int .i64 gen], .pointer (some ⟨A, 0, none⟩)] w fun e w' => e = .returned (.bool (!Nf.needB (pl L) O (no, gen))) ∧ Below w.heap.size w w' := by
  have hAl := (Array.getElem?_eq_some_iff.1 hA).1
  have hb0 : Below w.heap.size w (w.alloc (BH no gen)) := (Below.refl _ _).alloc (Nat.le_refl _) _
  obtain ⟨a0, a1, a2, a3⟩ := st_of hA
  have HC : Hid (Calls Tryz.prog 96 #[VSt vi vo (.slice sp sn sc) dn, .agg #[.int .i64 no, .int .i64 gen]] (w.alloc (BH no gen)) fun e w' => e = .returned (.bool (Nf.needB (pl L) O (no, gen))) ∧ Below (w.alloc (BH no gen)).heap.size (w.alloc (BH no gen)) w') := needed_any vi vo sp sn sc dn L O no gen _ (hv.up hb0) (ho.up hb0) hn
  obtain ⟨p, c, rfl, -, -⟩ := hv.open
  obtain ⟨q, d, rfl, -, -⟩ := ho.open
  obtain ⟨r, hr⟩ : ∃ r, Nf.needB (pl L) O (no, gen) = r := ⟨_, rfl⟩
  rw [hr] at HC ⊢
  obtain ⟨n, hn'⟩ : ∃ n, L.length = n := ⟨_, rfl⟩
  obtain ⟨m, hm'⟩ : ∃ m, O.length = m := ⟨_, rfl⟩
  rw [hn'] at a0 HC
  rw [hm'] at a1 HC
  clear hv ho hn hA hb0 hr hn' hm'
  go_enter Tryz.func95, Tryz.ntmps95
  go_wp2_with fail
  refine HC.out.mono ?_
  rintro e w1 ⟨rfl, hb1⟩
  have HB1 : Hid (Below w.heap.size w w1) := ((Below.refl _ w).alloc (Nat.le_refl _) _).trans (hb1.mono (by simp))
  clear hb1 HC
  go_wp2
  go_ret
  exact ⟨rfl, HB1.out⟩
theorem Nf.files_named {L : List Ino} {h : Int × Int} (hm : h ∈ Nf.files L) : names L h.1 h.2 = true := mem_used.1 (List.mem_filter.1 hm).1
set_option maxHeartbeats 4000000 in
theorem rightFiles_any {S : Nat → Prop} (vi vo : Value) (sp : Option Addr) (sn sc : Nat) (dn : Int) (L : List Rw) (O : List Os.Opn) (w : World) (hv : TabAt S w vi L) (ho : AtW Os.EO w vo O) (hL : L.length ≤ 24) :
    Calls Tryz.prog 64 #[VSt vi vo (.slice sp sn sc) dn] w fun e w' => e = .returned (.bool (Nf.filesOk (pl L) O)) ∧ Below w.heap.size w w' := by
  have HV : Hid (TabAt S w vi L) := hv
  have HO : Hid (AtW Os.EO w vo O) := ho
  have HL : Hid (L.length ≤ 24) := hL
  obtain ⟨W, hW⟩ : ∃ W, W = w.alloc (BSt vi vo (.slice sp sn sc) dn) := ⟨_, rfl⟩
  have HB0 : Hid (Below w.heap.size w W) := by show Below w.heap.size w W; rw [hW]; exact (Below.refl _ w).alloc (Nat.le_refl _) _
  have HA0 : Hid (W.heap[w.heap.size]? = some (BSt vi vo (.slice sp sn sc) dn)) := by show W.heap[w.heap.size]? = _; rw [hW]; exact heap_alloc_new _ _
  have hla := (Array.getElem?_eq_some_iff.1 HA0.out).1
  obtain ⟨p, c, rfl, -, -⟩ := hv.open
  obtain ⟨q, d, rfl, -, -⟩ := ho.open
  obtain ⟨n, hn'⟩ : ∃ n, L.length = n := ⟨_, rfl⟩
  obtain ⟨m, hm'⟩ : ∃ m, O.length = m := ⟨_, rfl⟩
  rw [hn'] at HV HA0 hW ⊢
  rw [hm'] at HO HA0 hW ⊢
  obtain ⟨r1, hr1⟩ : ∃ r, (O.any fun x => !decide ((x.2.2.1, x.2.2.2) ∈ Nf.files (pl L))) = r := ⟨_, rfl⟩
  obtain ⟨r2, hr2⟩ : ∃ r, ((Nf.files (pl L)).any fun h => !Nf.needB (pl L) O h) = r := ⟨_, rfl⟩
  have hE : Nf.filesOk (pl L) O = (!r1 && !r2) := by unfold Nf.filesOk; rw [hr1, hr2]
  rw [hE]
  have HR : Hid ((O.any fun x => !decide ((x.2.2.1, x.2.2.2) ∈ Nf.files (pl L))) = r1 ∧ ((Nf.files (pl L)).any fun h => !Nf.needB (pl L) O h) = r2) := ⟨hr1, hr2⟩
  obtain ⟨a0, a1, a2, a3⟩ := st_of HA0.out
  clear hv ho hL hn' hm' hr1 hr2 hE
  go_enter Tryz.func64, Tryz.ntmps64
  go_wp2_with fail
  rw [← hW]
  clear hW a0 a1 a2 a3
  refine (files_any _ L _ (HV.out.up HB0.out) HL.out).mono ?_
  rintro e w1 ⟨u1, rfl, hu1, hb1⟩
  obtain ⟨W1, hW1⟩ : ∃ W1, W1 = w1.alloc (BSl u1 142) := ⟨_, rfl⟩
  have bw1 : Below w1.heap.size w1 W1 := by rw [hW1]; exact (Below.refl _ _).alloc (Nat.le_refl _) _
  have bn1 : Below W.heap.size W W1 := hb1.trans (bw1.mono hb1.size)
  have HB1 : Hid (Below w.heap.size w W1) := HB0.out.trans (bn1.mono HB0.out.size)
  have HX1 : Hid (W1.heap[w1.heap.size]? = some (BSl u1 142)) := by show W1.heap[w1.heap.size]? = _; rw [hW1]; exact heap_alloc_new _ _
  have HY1 : Hid (w1.heap[w.heap.size]? = some (BSt (.slice p n c) (.slice q m d) (.slice sp sn sc) dn)) := (hb1.block _ hla).trans HA0.out
  have HA1 : Hid (W1.heap[w.heap.size]? = some (BSt (.slice p n c) (.slice q m d) (.slice sp sn sc) dn)) := (bn1.block _ hla).trans HA0.out
  have HU1 : Hid (AtW EH W1 u1 (Nf.files (pl L))) := hu1.up bw1
  obtain ⟨pu, cu, hsl, -, -⟩ := hu1.open
  obtain ⟨k, hk⟩ : ∃ k, (Nf.files (pl L)).length = k := ⟨_, rfl⟩
  rw [hk] at hsl
  subst hsl
  have hly1 := (Array.getElem?_eq_some_iff.1 HY1.out).1
  have hla1 := (Array.getElem?_eq_some_iff.1 HA1.out).1
  have hlx1 := (Array.getElem?_eq_some_iff.1 HX1.out).1
  obtain ⟨a0, a1, a2, a3⟩ := st_of HY1.out
  clear hu1 hb1 bw1 bn1 hk
  go_wp2_with fail
  rw [← hW1]
  clear hW1 a0 a1 a2 a3
  refine (conNo _ O (fun x => !decide ((x.2.2.1, x.2.2.2) ∈ Nf.files (pl L))) w1.heap.size _ (HO.out.up HB1.out) (fun x hx V hb => rf1_any _ (Nf.files (pl L)) x w1.heap.size V (HU1.out.up hb) ((hb.block _ hlx1).trans HX1.out))).mono ?_
  rintro e w2 ⟨rfl, hb2⟩
  rw [HR.out.1]
  have HB2 : Hid (Below w.heap.size w w2) := HB1.out.trans (hb2.mono HB1.out.size)
  have HX2 : Hid (w2.heap[w1.heap.size]? = some (BSl (.slice pu k cu) 142)) := (hb2.block _ hlx1).trans HX1.out
  have HA2 : Hid (w2.heap[w.heap.size]? = some (BSt (.slice p n c) (.slice q m d) (.slice sp sn sc) dn)) := (hb2.block _ hla1).trans HA1.out
  have HU2 : Hid (AtW EH w2 (.slice pu k cu) (Nf.files (pl L))) := HU1.out.up hb2
  have hla2 := (Array.getElem?_eq_some_iff.1 HA2.out).1
  clear hb2
  cases r1 with
  | true =>
    go_wp2
    go_ret
    exact ⟨rfl, HB2.out⟩
  | false =>
    have x0 := sl_of HX2.out
    go_wp2_with fail
    refine (conUn _ (Nf.files (pl L)) (fun h => !Nf.needB (pl L) O h) w.heap.size _ HU2.out (fun x hx V hb => rf2_any _ _ sp sn sc dn L O x.1 x.2 w.heap.size V ((HV.out.up HB2.out).up hb) ((HO.out.up HB2.out).up hb) (Nf.files_named hx) ((hb.block _ hla2).trans HA2.out))).mono ?_
    rintro e w3 ⟨rfl, hb3⟩
    rw [HR.out.2]
    have HB3 : Hid (Below w.heap.size w w3) := HB2.out.trans (hb3.mono HB2.out.size)
    clear hb3
    go_wp2
    go_ret
    exact ⟨by simp, HB3.out⟩
set_option maxHeartbeats 1000000 in
theorem nwithin_any (lo x hi : Int) (w : World) : Calls Tryz.prog 101 #[.int .i64 lo, .int .i64 x, .int .i64 hi] w fun e w' => e = .returned (.bool (decide (lo ≤ x ∧ x ≤ hi))) ∧ w' = w := by
  by_cases h1 : lo ≤ x
  · by_cases h2 : x ≤ hi
    · rw [decide_eq_true ⟨h1, h2⟩]
      go_enter Tryz.func101, Tryz.ntmps101
      go_wp2
      go_ret
      exact ⟨rfl, rfl⟩
    · rw [decide_eq_false (fun h => h2 h.2)]
      go_enter Tryz.func101, Tryz.ntmps101
      go_wp2
      go_ret
      exact ⟨rfl, rfl⟩
  · rw [decide_eq_false (fun h => h1 h.1)]
    go_enter Tryz.func101, Tryz.ntmps101
    go_wp2
    go_ret
    exact ⟨rfl, rfl⟩
set_option maxHeartbeats 2000000 in
theorem rd1_any (vi vo vs : Value) (dn : Int) (x : Rw) (A : Nat) (w : World) (hA : w.heap[A]? = some (BSt vi vo vs dn)) :
    Calls Tryz.prog 100 #[VI x, .pointer (some ⟨A, 0, none⟩)] w fun e w' => e = .returned (.bool (decide (dn < x.i.stamp))) ∧ Below w.heap.size w w' := by
  have hAl := (Array.getElem?_eq_some_iff.1 hA).1
  obtain ⟨a0, a1, a2, a3⟩ := st_of hA
  go_enter Tryz.func100, Tryz.ntmps100
  go_wp2
  go_ret
  exact ⟨rfl, (Below.refl _ _).alloc (Nat.le_refl _) _⟩
theorem tab_at {S : Nat → Prop} {w : World} {v : Value} {L : List Rw} (h : TabAt S w v L) : AtW EI w v L := h.1.wide
set_option maxHeartbeats 2000000 in
theorem rightDone_any {S : Nat → Prop} (vi : Value) (op : Option Addr) (on oc : Nat) (sp : Option Addr) (sn sc : Nat) (dn : Int) (L : List Rw) (w : World) (hv : TabAt S w vi L) :
    Calls Tryz.prog 66 #[VSt vi (.slice op on oc) (.slice sp sn sc) dn] w fun e w' => e = .returned (.bool (Nf.doneOk (pl L) dn)) ∧ Below w.heap.size w w' := by
  have HV : Hid (TabAt S w vi L) := hv
  obtain ⟨W, hW⟩ : ∃ W, W = w.alloc (BSt vi (.slice op on oc) (.slice sp sn sc) dn) := ⟨_, rfl⟩
  have HB0 : Hid (Below w.heap.size w W) := by show Below w.heap.size w W; rw [hW]; exact (Below.refl _ w).alloc (Nat.le_refl _) _
  have HA0 : Hid (W.heap[w.heap.size]? = some (BSt vi (.slice op on oc) (.slice sp sn sc) dn)) := by show W.heap[w.heap.size]? = _; rw [hW]; exact heap_alloc_new _ _
  have hla := (Array.getElem?_eq_some_iff.1 HA0.out).1
  obtain ⟨p, c, rfl, -, -⟩ := hv.open
  obtain ⟨n, hn'⟩ : ∃ n, L.length = n := ⟨_, rfl⟩
  rw [hn'] at HV HA0 hW ⊢
  obtain ⟨r1, hr1⟩ : ∃ r, decide (0 ≤ dn ∧ dn ≤ 1099511627776) = r := ⟨_, rfl⟩
  obtain ⟨r2, hr2⟩ : ∃ r, (L.any fun x => decide (dn < x.i.stamp)) = r := ⟨_, rfl⟩
  have hE : Nf.doneOk (pl L) dn = (r1 && !r2) := by
    unfold Nf.doneOk
    rw [hr1, List.any_map]
    have e : (L.any ((fun x => decide (dn < x.stamp)) ∘ Rw.i)) = r2 := hr2
    rw [e]
  rw [hE]
  have HR : Hid (decide (0 ≤ dn ∧ dn ≤ 1099511627776) = r1 ∧ (L.any fun x => decide (dn < x.i.stamp)) = r2) := ⟨hr1, hr2⟩
  obtain ⟨a0, a1, a2, a3⟩ := st_of HA0.out
  clear hv hn' hr1 hr2 hE
  go_enter Tryz.func66, Tryz.ntmps66
  go_wp2_with fail
  rw [← hW]
  clear hW
  refine (nwithin_any _ _ _ _).mono ?_
  rintro e w1 ⟨rfl, hw1⟩
  obtain rfl : W = w1 := hw1.symm
  clear hw1
  rw [HR.out.1]
  cases r1 with
  | false =>
    go_wp2
    go_ret
    exact ⟨rfl, HB0.out⟩
  | true =>
    go_wp2_with fail
    refine (conLa _ L (fun x => decide (dn < x.i.stamp)) w.heap.size _ (tab_at (HV.out.up HB0.out)) (fun x hx V hb => rd1_any _ _ _ dn x w.heap.size V ((hb.block _ hla).trans HA0.out))).mono ?_
    rintro e w2 ⟨rfl, hb2⟩
    rw [HR.out.2]
    have HB2 : Hid (Below w.heap.size w w2) := HB0.out.trans (hb2.mono HB0.out.size)
    clear hb2
    go_wp2
    go_ret
    exact ⟨by simp, HB2.out⟩
end Go.Proofs.YtggoccfddnpelaaGreat
namespace Go.Proofs.YtggoccfddnpelaaGreat.Es
open Go.RowKit
set_option maxRecDepth 100000
/-- A seat: the client, its last request, the reply. -/
abbrev Sea := Int × Int × ByteArray
def ES : Enc Sea := ⟨3, fun x => [.int .i64 x.1, .int .i64 x.2.1, .string x.2.2], fun _ => rfl, fun x u hu => by
  simp at hu
  rcases hu with rfl | rfl | rfl <;> rfl⟩
namespace Se
/-- A client that may be. -/
def Cl (c : Int) : Prop := 0 ≤ c ∧ c ≤ 1099511627776
instance (c : Int) : Decidable (Cl c) := by unfold Cl; infer_instance
/-- A request's number that may be. -/
def Rq (r : Int) : Prop := 1 ≤ r ∧ r ≤ 1099511627776
instance (r : Int) : Decidable (Rq r) := by unfold Rq; infer_instance
def good (t : Int) (x : Sea) : Prop := (t ≤ x.1 ∧ x.1 ≤ 1099511627776) ∧ Rq x.2.1 ∧ x.2.2.size ≤ 8192
instance (t : Int) (x : Sea) : Decidable (good t x) := by unfold good; infer_instance
def right (t : Int) : List Sea → Bool
  | [] => true
  | x :: r => decide (good t x) && right (x.1 + 1) r
def ok (l : List Sea) : Bool := decide (l.length ≤ 6) && right 0 l
theorem drop_at {α : Type} {l : List α} {k : Nat} {x : α} (h : l[k]? = some x) : l.drop k = x :: l.drop (k + 1) := by
  obtain ⟨hk, rfl⟩ := List.getElem?_eq_some_iff.1 h
  exact List.drop_eq_getElem_cons hk
theorem right_yes {l : List Sea} {k : Nat} {x : Sea} {t : Int} (h : l[k]? = some x) (hg : good t x) : right t (l.drop k) = right (x.1 + 1) (l.drop (k + 1)) := by
  rw [drop_at h]
  simp [right, hg]
theorem right_no {l : List Sea} {k : Nat} {x : Sea} {t : Int} (h : l[k]? = some x) (hg : ¬ good t x) : right t (l.drop k) = false := by
  rw [drop_at h]
  simp [right, hg]
theorem right_end {l : List Sea} {k : Nat} {t : Int} (h : k = l.length) : right t (l.drop k) = true := by
  rw [h, List.drop_length]
  rfl
theorem right_iff : ∀ (l : List Sea) (t : Int), right t l = true ↔ (∀ x ∈ l, good t x) ∧ l.Pairwise (fun x y => x.1 < y.1)
  | [], t => by simp [right]
  | y :: r, t => by
    rw [right, Bool.and_eq_true, decide_eq_true_iff, right_iff r, List.pairwise_cons]
    constructor
    · rintro ⟨h1, h2, h3⟩
      refine ⟨fun x hx => ?_, fun x hx => ?_, h3⟩
      · rcases List.mem_cons.1 hx with rfl | hx
        · exact h1
        · have := h2 x hx
          have h1' := h1.1.1
          have h2' := this.1.1
          exact ⟨⟨by omega, this.1.2⟩, this.2⟩
      · have := (h2 x hx).1.1
        omega
    · rintro ⟨h1, h2, h3⟩
      refine ⟨h1 y (by simp), fun x hx => ?_, h3⟩
      have := h1 x (by simp [hx])
      have h4 := h2 x hx
      exact ⟨⟨by omega, this.1.2⟩, this.2⟩
abbrev Sorted (l : List Sea) : Prop := l.Pairwise (fun x y => x.1 < y.1)
theorem ok_iff (l : List Sea) : ok l = true ↔ l.length ≤ 6 ∧ (∀ x ∈ l, good 0 x) ∧ Sorted l := by
  unfold ok
  rw [Bool.and_eq_true, decide_eq_true_iff, right_iff]
/-- A client's seat. -/
def seat (l : List Sea) (c : Int) : Option Sea := l.find? fun x => x.1 == c
/-- What is wrong with seats or a client. -/
def cErr (l : List Sea) (c : Int) : Int := if ok l = true then (if Cl c then 0 else 1) else 4
/-- What is wrong with seats, a client or a request. -/
def rErr (l : List Sea) (c r : Int) : Int := if cErr l c = 0 then (if Rq r then 0 else 1) else cErr l c
/-- What a request is. -/
def what (l : List Sea) (c r : Int) : Int := if rErr l c r = 0 then (match seat l c with | none => if l.length = 6 then 4 else 1 | some x => if x.2.1 < r then 1 else if r < x.2.1 then 3 else 2) else 0
/-- The reply that is told. -/
def told (l : List Sea) (c r : Int) : ByteArray := if rErr l c r = 0 then (match seat l c with | none => ⟨#[]⟩ | some x => if r = x.2.1 then x.2.2 else ⟨#[]⟩) else ⟨#[]⟩
def putErr (l : List Sea) (c r : Int) (s : ByteArray) : Int := if rErr l c r = 0 then (if 8192 < s.size then 2 else if what l c r = 4 then 412 else if what l c r = 1 then 0 else 7) else rErr l c r
def put (l : List Sea) (c r : Int) (s : ByteArray) : List Sea := if putErr l c r s = 0 then l.filter (fun x => decide (x.1 < c)) ++ [(c, r, s)] ++ l.filter (fun x => decide (c < x.1)) else []
def dropErr (l : List Sea) (c : Int) : Int := if cErr l c = 0 then (match seat l c with | none => 6 | some _ => 0) else cErr l c
end Se
end Go.Proofs.YtggoccfddnpelaaGreat.Es
namespace Go.Proofs.YtggoccfddnpelaaGreat.Ks
set_option maxRecDepth 100000
namespace Pl
/-- The last k bytes of m, big end first. -/
def digits (k m : Nat) : List UInt8 := (List.range k).map fun j => UInt8.ofNat (m / 256 ^ (k - 1 - j) % 256)
theorem digits_zero (m : Nat) : digits 0 m = [] := rfl
theorem digits_length (k m : Nat) : (digits k m).length = k := by simp [digits]
theorem digits_succ (k m : Nat) : digits (k + 1) m = UInt8.ofNat (m / 256 ^ k % 256) :: digits k m := by
  unfold digits
  rw [List.range_succ_eq_map, List.map_cons, List.map_map]
  congr 1
  apply List.map_congr_left
  intro j hj
  have := List.mem_range.1 hj
  simp only [Function.comp, Nat.succ_eq_add_one]
  rw [show k + 1 - 1 - (j + 1) = k - 1 - j from by omega]
def txt (l : List UInt8) : ByteArray := ⟨l.toArray⟩
theorem txt_toList (s : ByteArray) : txt s.data.toList = s := by cases s; simp [txt]
theorem txt_data (l : List UInt8) : (txt l).data.toList = l := by simp [txt]
theorem txt_size (l : List UInt8) : (txt l).size = l.length := by simp [txt, ByteArray.size]
theorem txt_append (a b : List UInt8) : txt a ++ txt b = txt (a ++ b) := ByteArray.mk_append_mk a b
/-- What Num answers: the text, and the error's number. -/
def numBad (n size : Int) : Bool := decide (size < 1 ∨ 8 < size ∨ n < 0) || decide (n.toNat / 256 ^ size.toNat ≠ 0)
def numOut (n size : Int) : ByteArray := if numBad n size then txt [] else txt (digits size.toNat n.toNat)
def numErr (n size : Int) : Int := if numBad n size then 1 else 0
theorem div_step (n : Int) (k : Nat) : (((n.toNat / 256 ^ k : Nat) : Int)) / 256 = ((n.toNat / 256 ^ (k + 1) : Nat) : Int) := by
  rw [Nat.pow_succ, ← Nat.div_div_eq_div_mul]; omega
/-- The number that bytes are. -/
def numOf (l : List UInt8) : Nat := l.foldl (fun n b => 256 * n + b.toNat) 0
theorem numOf_snoc (l : List UInt8) (b : UInt8) : numOf (l ++ [b]) = 256 * numOf l + b.toNat := by simp [numOf]
theorem numOf_lt_acc (l : List UInt8) : ∀ a : Nat, l.foldl (fun n b => 256 * n + b.toNat) a < (a + 1) * 256 ^ l.length := by
  induction l with
  | nil => intro a; simp
  | cons b l ih =>
    intro a
    have h := ih (256 * a + b.toNat)
    have hb := b.toNat_lt
    rw [List.foldl_cons, List.length_cons]
    have h2 : (256 * a + b.toNat + 1) * 256 ^ l.length ≤ (256 * (a + 1)) * 256 ^ l.length := Nat.mul_le_mul_right _ (by omega)
    have h3 : (256 * (a + 1)) * 256 ^ l.length = (a + 1) * 256 ^ (l.length + 1) := by rw [Nat.pow_succ, Nat.mul_comm 256 (a + 1), Nat.mul_assoc, Nat.mul_comm 256]
    omega
theorem numOf_lt (l : List UInt8) : numOf l < 256 ^ l.length := by have := numOf_lt_acc l 0; simpa [numOf] using this
def sNum (s : ByteArray) : Bool := decide (s.size < 1 ∨ 8 < s.size)
def fNum (s : ByteArray) : Bool := decide (s.size = 8) && decide (128 ≤ (s.data.toList.headD 0).toNat)
def numVal (s : ByteArray) : Int := if sNum s || fNum s then 0 else numOf s.data.toList
def numberErr (s : ByteArray) : Int := if sNum s then 1 else if fNum s then 4 else 0
end Pl
namespace Pl
def badAt (last : Int) (x : Int × ByteArray) : Int := if x.1 < 1 ∨ 255 < x.1 then 1 else if 65535 < x.2.size then 2 else if x.1 < last then 11 else 0
def packErr : Int → List (Int × ByteArray) → Int
  | _, [] => 0
  | last, x :: l => if badAt last x = 0 then packErr x.1 l else badAt last x
def encOne (x : Int × ByteArray) : List UInt8 := [UInt8.ofNat x.1.toNat, UInt8.ofNat (x.2.size / 256), UInt8.ofNat (x.2.size % 256)] ++ x.2.data.toList
def encs (l : List (Int × ByteArray)) : List UInt8 := l.flatMap encOne
def packOut (l : List (Int × ByteArray)) : ByteArray := if packErr 1 l = 0 then txt (encs l) else txt []
def lastAt (last : Int) (l : List (Int × ByteArray)) (k : Nat) : Int := if k = 0 then last else (l.getD (k - 1) (0, .empty)).1
def okTo (last : Int) (l : List (Int × ByteArray)) (k : Nat) : Prop := ∀ i, i < k → i < l.length → badAt (lastAt last l i) (l.getD i (0, .empty)) = 0
theorem lastAt_cons (last : Int) (x : Int × ByteArray) (l : List (Int × ByteArray)) (k : Nat) : lastAt last (x :: l) (k + 1) = lastAt x.1 l k := by
  unfold lastAt
  match k with
  | 0 => simp
  | k + 1 => simp
theorem packErr_at : ∀ (l : List (Int × ByteArray)) (last : Int) (k : Nat), k < l.length → okTo last l k → badAt (lastAt last l k) (l.getD k (0, .empty)) ≠ 0 → packErr last l = badAt (lastAt last l k) (l.getD k (0, .empty))
  | [], _, k, hk, _, _ => by simp at hk
  | x :: l, last, 0, _, _, hb => by
    simp only [lastAt, List.getD_cons_zero, if_true] at hb ⊢
    simp only [packErr, if_neg hb]
  | x :: l, last, k + 1, hk, hok, hb => by
    have h0 := hok 0 (by omega) (by simp)
    simp only [lastAt, List.getD_cons_zero, if_true] at h0
    rw [lastAt_cons, List.getD_cons_succ] at hb ⊢
    simp only [packErr, if_pos h0]
    refine packErr_at l x.1 k (by simpa using hk) (fun i hi hl => ?_) hb
    have := hok (i + 1) (by omega) (by simpa using hl)
    rwa [lastAt_cons, List.getD_cons_succ] at this
theorem packErr_ok : ∀ (l : List (Int × ByteArray)) (last : Int), okTo last l l.length → packErr last l = 0
  | [], _, _ => rfl
  | x :: l, last, hok => by
    have h0 := hok 0 (by simp) (by simp)
    simp only [lastAt, List.getD_cons_zero, if_true] at h0
    simp only [packErr, if_pos h0]
    refine packErr_ok l x.1 (fun i hi hl => ?_)
    have := hok (i + 1) (by simpa using hi) (by simpa using hl)
    rwa [lastAt_cons, List.getD_cons_succ] at this
theorem okTo_succ {last : Int} {l : List (Int × ByteArray)} {k : Nat} (h : okTo last l k) (hk : badAt (lastAt last l k) (l.getD k (0, .empty)) = 0) : okTo last l (k + 1) := by
  intro i hi hl
  by_cases e : i = k
  · subst e; exact hk
  · exact h i (by omega) hl
theorem lastAt_succ {last : Int} {l : List (Int × ByteArray)} {k : Nat} {x : Int × ByteArray} (h : l.getD k (0, .empty) = x) : lastAt last l (k + 1) = x.1 := by
  simp only [lastAt, Nat.add_sub_cancel, h]
  simp
theorem pack_bad {l : List (Int × ByteArray)} {k : Nat} {e la : Int} {x : Int × ByteArray} (hk : k < l.length) (hok : okTo 1 l k) (hl : lastAt 1 l k = la) (hx : l.getD k (0, .empty) = x) (hb : badAt la x = e) (he : e ≠ 0) : packOut l = txt [] ∧ packErr 1 l = e := by
  have h := packErr_at l 1 k hk hok (by rw [hl, hx, hb]; exact he)
  rw [hl, hx, hb] at h
  exact ⟨by rw [packOut, h, if_neg he], h⟩
theorem pack_fine {l : List (Int × ByteArray)} (hok : okTo 1 l l.length) : packOut l = txt (encs l) ∧ packErr 1 l = 0 := by
  have h := packErr_ok l 1 hok
  exact ⟨by rw [packOut, h, if_pos rfl], h⟩
def bcells (l : List UInt8) : List Value := l.map fun b => .int .u8 (b.toNat : Int)
theorem bcells_append (a b : List UInt8) : bcells (a ++ b) = bcells a ++ bcells b := by simp [bcells]
theorem byteCells_eq (s : ByteArray) : byteCells s = bcells s.data.toList := rfl
theorem encs_take_succ {l : List (Int × ByteArray)} {k : Nat} {x : Int × ByteArray} (hk : k < l.length) (hx : l.getD k (0, .empty) = x) : encs (l.take (k + 1)) = encs (l.take k) ++ encOne x := by
  have : l.take (k + 1) = l.take k ++ [x] := by
    rw [List.take_succ_eq_append_getElem hk]; simp [List.getD, hk] at hx; rw [hx]
  rw [this]; simp [encs]
theorem encs_take_le (l : List (Int × ByteArray)) (k : Nat) : (encs (l.take k)).length ≤ (encs l).length := by
  have e : encs (l.take k ++ l.drop k) = encs (l.take k) ++ encs (l.drop k) := by unfold encs; rw [List.flatMap_append]
  rw [List.take_append_drop] at e
  rw [e]; simp
theorem encOne_length (x : Int × ByteArray) : (encOne x).length = 3 + x.2.size := by
  simp only [encOne, List.length_append, List.length_cons, List.length_nil, Array.length_toList]; rfl
theorem encOne_cells (t : Int) (s : ByteArray) (h1 : 1 ≤ t) (h2 : t ≤ 255) (h3 : s.size ≤ 65535) :
    bcells (encOne (t, s)) = [.int .u8 t, .int .u8 ((s.size : Int) / 256), .int .u8 ((s.size : Int) % 256)] ++ byteCells s := by
  have e1 : (UInt8.ofNat t.toNat).toNat = t.toNat := by rw [UInt8.toNat_ofNat']; omega
  have e2 : (UInt8.ofNat (s.size / 256)).toNat = s.size / 256 := by rw [UInt8.toNat_ofNat']; omega
  have e3 : (UInt8.ofNat (s.size % 256)).toNat = s.size % 256 := by rw [UInt8.toNat_ofNat']; omega
  rw [encOne, bcells_append, ← byteCells_eq]
  simp only [bcells, List.map_cons, List.map_nil, e1, e2, e3]
  congr 2
  congr 1
  omega
end Pl
end Go.Proofs.YtggoccfddnpelaaGreat.Ks
