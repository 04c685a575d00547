/-
  sextonref11.below: what it answers.
-/
import Derived.Test.YtacghcoikekfeaaGreatRSo
import Derived.Test.YtacghcoikekfeaaGreatRRt
namespace Go.Proofs.YtacghcoikekfeaaGreat
open Go.ChangeShapes Go.WideShapes Go.ChangeAt Go.RowKit Go.Deep It
set_option maxRecDepth 100000
namespace Sp
/-- The paths below a folder, among others. -/
def below (L : List Ino) : Nat → Nat → ByteArray → List ByteArray → List ByteArray
  | 0, _, _, out => out
  | f + 1, no, path, out => (entsAt L no).foldl (fun o e => if dirAt L e.2.2.1.toNat = true then below L f e.2.2.1.toNat (way path e.1) (insT (way path e.1) o) else insT (way path e.1) o) out
def belowE (L : List Ino) (f : Nat) (path : ByteArray) (o : List ByteArray) (e : En) : List ByteArray := if dirAt L e.2.2.1.toNat = true then below L f e.2.2.1.toNat (way path e.1) (insT (way path e.1) o) else insT (way path e.1) o
theorem below_succ (L : List Ino) (f no : Nat) (path : ByteArray) (out : List ByteArray) : below L (f + 1) no path out = (entsAt L no).foldl (belowE L f path) out := rfl
theorem insT_len (s : ByteArray) : ∀ l : List ByteArray, (insT s l).length = l.length + 1
  | [] => rfl
  | x :: l => by
    unfold insT
    split
    · rfl
    · simp [insT_len s l]
theorem fold_len {α : Type} {g : List ByteArray → α → List ByteArray} (h : ∀ o e, o.length ≤ (g o e).length) : ∀ (l : List α) (o : List ByteArray), o.length ≤ (l.foldl g o).length
  | [], _ => Nat.le_refl _
  | e :: l, o => Nat.le_trans (h o e) (fold_len h l _)
theorem below_len (L : List Ino) : ∀ (f no : Nat) (path : ByteArray) (out : List ByteArray), out.length ≤ (below L f no path out).length
  | 0, _, _, _ => Nat.le_refl _
  | f + 1, no, path, out => by
    rw [below_succ]
    refine fold_len (fun o e => ?_) _ _
    unfold belowE
    split
    · have := below_len L f e.2.2.1.toNat (way path e.1) (insT (way path e.1) o)
      rw [insT_len] at this
      omega
    · rw [insT_len]
      omega
theorem belowE_len (L : List Ino) (f : Nat) (path : ByteArray) (o : List ByteArray) (e : En) : o.length + 1 ≤ (belowE L f path o e).length := by
  unfold belowE
  split
  · have := below_len L f e.2.2.1.toNat (way path e.1) (insT (way path e.1) o)
    rw [insT_len] at this
    omega
  · rw [insT_len]
    omega
/-- What is there ahead of the j-th entry. -/
def belowTo (L : List Ino) (f no : Nat) (path : ByteArray) (out : List ByteArray) (j : Nat) : List ByteArray := ((entsAt L no).take j).foldl (belowE L f path) out
theorem belowTo_succ {L : List Ino} {f no : Nat} {path : ByteArray} {out : List ByteArray} {j : Nat} {e : En} (h : (entsAt L no)[j]? = some e) : belowTo L f no path out (j + 1) = belowE L f path (belowTo L f no path out j) e := by
  unfold belowTo
  rw [List.take_add_one, h, List.foldl_append]
  rfl
theorem belowTo_all {L : List Ino} {f no : Nat} {path : ByteArray} {out : List ByteArray} {j : Nat} (h : (entsAt L no).length = j) : belowTo L f no path out j = below L (f + 1) no path out := by
  unfold belowTo
  rw [below_succ, ← h, List.take_length]
theorem belowTo_len (L : List Ino) (f no : Nat) (path : ByteArray) (out : List ByteArray) (j : Nat) : (belowTo L f no path out j).length ≤ (below L (f + 1) no path out).length := by
  unfold belowTo
  rw [below_succ]
  conv => rhs; rw [← List.take_append_drop j (entsAt L no), List.foldl_append]
  exact fold_len (fun o e => Nat.le_trans (Nat.le_succ _) (belowE_len L f path o e)) _ _
end Sp
set_option maxRecDepth 100000 in
set_option maxHeartbeats 4000000 in
theorem rbelow_any {S : Nat → Prop} (L : List Rw) (ao : Option Addr) (n cap : Nat) (hLn : L.length = n) (hn : n ≤ 1000) : ∀ (f no : Nat) (path : ByteArray) (l : List ByteArray) (v : Value) (w : World), Sp.deep (pl L) f no → path.size + 33 * f ≤ 1000 → TabAt S w (.slice ao n cap) L → AtW ETx w v l → (Sp.below (pl L) f no path l).length ≤ 100000 →
    Calls Tryz.prog 42 #[.slice ao n cap, .int .i64 no, .string path, v] w fun e w' => ∃ u, e = .returned u ∧ AtW ETx w' u (Sp.below (pl L) f no path l) ∧ Below w.heap.size w w'
  | 0, _, _, _, _, _, h, _, _, _, _ => h.elim
  | f + 1, no, path, l, v, w, hdeep, hpath, hv, hl, hb => by
    have IH : Hid (∀ (no : Nat) (path : ByteArray) (l : List ByteArray) (v : Value) (w : World), Sp.deep (pl L) f no → path.size + 33 * f ≤ 1000 → TabAt S w (.slice ao n cap) L → AtW ETx w v l → (Sp.below (pl L) f no path l).length ≤ 100000 →
      Calls Tryz.prog 42 #[.slice ao n cap, .int .i64 no, .string path, v] w fun e w' => ∃ u, e = .returned u ∧ AtW ETx w' u (Sp.below (pl L) f no path l) ∧ Below w.heap.size w w') := rbelow_any L ao n cap hLn hn f
    have HV : Hid (TabAt S w (.slice ao n cap) L) := hv
    have HN : Hid (L.length = n) := hLn
    have HDEEP : Hid (Sp.deep (pl L) (f + 1) no) := hdeep
    have HBB : Hid ((Sp.below (pl L) (f + 1) no path l).length ≤ 100000) := hb
    have hno : no < n := by have := hdeep.1; rw [List.length_map, hLn] at this; exact this
    obtain ⟨x, hx⟩ : ∃ x, L[no]? = some x := ⟨_, List.getElem?_eq_getElem (by rw [hLn]; exact hno)⟩
    obtain ⟨⟨b, off, rfl, hB, hc⟩, hen, hel, hes⟩ := tab_eight hv hx
    have HES : Hid (∀ j e, x.i.ents[j]? = some e → ∃ b' off, x.ep = some ⟨b', off, none⟩ ∧ b' < w.heap.size ∧ ent4 w b' (off + j * 4) e) := hes
    have HEA : Hid (Sp.entsAt (pl L) no = x.i.ents) := (ents_at hx).1
    obtain ⟨c0, c1, c2, c3, c4, c5, c6, c7⟩ := hc
    have hno' : (no : Int) < (n : Int) := by omega
    obtain ⟨m, hm⟩ : ∃ m, x.en = m := ⟨_, rfl⟩
    obtain ⟨ep, hep⟩ : ∃ ep, x.ep = ep := ⟨_, rfl⟩
    obtain ⟨ec, hec⟩ : ∃ ec, x.ec = ec := ⟨_, rfl⟩
    have HM : Hid (x.i.ents.length = m) := hen.symm.trans hm
    have hmb : m ≤ 3518437208883 := by rw [← HM.out]; exact hel
    have HEP : Hid (x.ep = ep) := hep
    rw [hm, hep, hec] at c6
    have HL0 : Hid (AtW ETx w v l) := hl
    obtain ⟨lo, lc, rfl, -, -⟩ := hl.open
    obtain ⟨ln, hln⟩ : ∃ ln, l.length = ln := ⟨_, rfl⟩
    rw [hln] at HL0 ⊢
    have HP : Hid (path.size + 33 * (f + 1) ≤ 1000) := hpath
    clear hdeep hb hv hx hes hen hel hm hep hec hl hLn hln c0 c1 c2 c3 c4 c5 c7 hpath
    go_enter Tryz.func42, Tryz.ntmps42
    go_wp2
    clear c6
    go_loopw [3, 17] (fun o i wr => ∃ (j : Nat) (pp : Option Addr) (jj q : Nat), j ≤ m ∧ i = .int .i64 j ∧ o = .slice pp jj q ∧ Hid (AtW ETx wr (.slice pp jj q) (Sp.belowTo (pl L) f no path l j)) ∧ Hid (Below w.heap.size w wr)) (fun _ i _ => m - (intOf i).toNat)
    case atStart => exact ⟨0, lo, ln, lc, Nat.zero_le _, rfl, rfl, HL0.out, Below.refl _ _⟩
    case round =>
      obtain ⟨j, pp, jj, q, hj, rfl, rfl, HO, HBW⟩ := hrel
      have hsz := HBW.out.size
      by_cases hjm : j < m
      · obtain ⟨⟨s, ck, e3, g⟩, hej⟩ : ∃ e, x.i.ents[j]? = some e := ⟨_, List.getElem?_eq_getElem (by rw [HM.out]; exact hjm)⟩
        have HEJ : Hid ((Sp.entsAt (pl L) no)[j]? = some (s, ck, e3, g)) := by rw [HEA.out]; exact hej
        obtain ⟨b2, off2, hep, hb2, h4⟩ := HES.out j _ hej
        obtain rfl : ep = some ⟨b2, off2, none⟩ := HEP.out.symm.trans hep
        obtain ⟨d0, d1, d2, d3⟩ := h4.below HBW.out hb2
        simp only at d0 d1 d2 d3
        obtain ⟨⟨he0, he1, hes⟩, hdd⟩ := HDEEP.out.2 _ (List.mem_of_getElem? HEJ.out)
        simp only at he0 he1 hes hdd
        obtain ⟨k, rfl⟩ : ∃ k : Nat, e3 = (k : Int) := ⟨e3.toNat, by omega⟩
        rw [List.length_map, HN.out] at he1
        have hkn : k < n := by omega
        have hkn' : (k : Int) < (n : Int) := by omega
        obtain ⟨y, hy⟩ : ∃ y, L[k]? = some y := ⟨_, List.getElem?_eq_getElem (by rw [HN.out]; exact hkn)⟩
        obtain ⟨⟨b', off', hbe, -, hy8⟩, -, -, -⟩ := tab_eight HV.out hy
        simp only [Option.some.injEq, Addr.mk.injEq, and_true] at hbe
        obtain ⟨rfl, rfl⟩ := hbe
        have HY8 : Hid (∀ V, Below w.heap.size w V → eight V b (off + k * 8) y) := fun V h => hy8.below h hB
        have HDIR : Hid (Sp.dirAt (pl L) k = (y.i.kind == 2)) := (ents_at hy).2
        have HDD : Hid (Sp.dirAt (pl L) k = true → Sp.deep (pl L) f k) := hdd
        have HSZ : Hid (s.size ≤ 32) := hes
        have hjm' : (j : Int) < (m : Int) := by omega
        have hcat : ¬ 9223372036854775807 < path.size + 1 + s.size := by have := HP.out; omega
        obtain ⟨W1, hW1⟩ : ∃ W1, W1 = wr.alloc (BEn (s, ck, (k : Int), g)) := ⟨_, rfl⟩
        have HB1 : Hid (Below w.heap.size w W1) := by show Below _ _ _; rw [hW1]; exact HBW.out.alloc hsz _
        have HX1 : Hid (W1.heap[wr.heap.size]? = some (BEn (s, ck, (k : Int), g))) := by show W1.heap[wr.heap.size]? = _; rw [hW1]; exact heap_alloc_new _ _
        have hl1 : wr.heap.size < W1.heap.size := by rw [hW1]; simp
        have HO1 : Hid (AtW ETx W1 (.slice pp jj q) (Sp.belowTo (pl L) f no path l j)) := by show AtW _ _ _ _; rw [hW1]; exact HO.out.up ((Below.refl _ _).alloc (Nat.le_refl _) _)
        have HL1 : Hid ((Sp.belowTo (pl L) f no path l (j + 1)).length ≤ 100000) := Nat.le_trans (Sp.belowTo_len _ _ _ _ _ _) HBB.out
        rw [Sp.belowTo_succ HEJ.out] at HL1
        have HL2 : Hid ((Sp.belowTo (pl L) f no path l j).length ≤ 100000) := Nat.le_trans (Sp.belowTo_len _ _ _ _ _ _) HBB.out
        clear hej hep h4 hy hy8 hdd hes he0 he1
        go_wp2_with fail
        rw [← hW1]
        have hway : Sp.way path s = path ++ (⟨#[47]⟩ : ByteArray) ++ s := rfl
        generalize hq1 : path ++ (⟨#[47]⟩ : ByteArray) = q1 at hway ⊢
        generalize q1 ++ s = pw at hway ⊢
        have HQ : Hid (Sp.way path s = pw) := hway
        clear hway hq1 d0 d1 d2 d3 hW1
        refine (rsorted_any _ _ pw _ HO1.out HL2.out).mono ?_
        rintro e w2 ⟨u2, rfl, hrow2, hb2'⟩
        have HB2 : Hid (Below w.heap.size w w2) := HB1.out.trans (hb2'.mono HB1.out.size)
        have HX2 : Hid (w2.heap[wr.heap.size]? = some (BEn (s, ck, (k : Int), g))) := (hb2'.block _ hl1).trans HX1.out
        obtain ⟨⟨g0, g1, g2, g3⟩, -⟩ := ent_of HX2.out
        obtain ⟨r0, r1, r2, r3, r4, r5, r6, r7⟩ := HY8.out _ HB2.out
        have HO2 : Hid (AtW ETx w2 u2 (Sp.insT pw (Sp.belowTo (pl L) f no path l j))) := hrow2.at.wide
        obtain ⟨p2, n2, c2, rfl⟩ := hrow2.slice3
        clear hrow2 hb2'
        by_cases hkind : y.i.kind = 2
        · rw [hkind] at r1
          have HDK : Hid (Sp.dirAt (pl L) k = true) := by show _ = _; rw [HDIR.out, hkind]; rfl
          have HST : Hid (Sp.belowE (pl L) f path (Sp.belowTo (pl L) f no path l j) (s, ck, (k : Int), g) = Sp.below (pl L) f k pw (Sp.insT pw (Sp.belowTo (pl L) f no path l j))) := by
            show _ = _
            unfold Sp.belowE
            simp only [Int.toNat_natCast]
            rw [if_pos HDK.out, HQ.out]
          have hpw : pw.size + 33 * f ≤ 1000 := by rw [← HQ.out, Sp.way_size]; have := HSZ.out; have := HP.out; omega
          clear hkind
          go_wp2_with fail
          have hq2 : path ++ (⟨#[47]⟩ : ByteArray) ++ s = pw := HQ.out
          rw [hq2]
          rw [HST.out] at HL1
          clear g0 g1 g2 g3 r0 r1 r2 r3 r4 r5 r6 r7 hq2
          refine (IH.out k pw _ _ _ (HDD.out HDK.out) hpw (HV.out.up HB2.out) HO2.out HL1.out).mono ?_
          rintro e w3 ⟨u3, rfl, ho3, hb3⟩
          have HB3 : Hid (Below w.heap.size w w3) := HB2.out.trans (hb3.mono HB2.out.size)
          have HO3 : Hid (AtW ETx w3 u3 (Sp.belowTo (pl L) f no path l (j + 1))) := by show AtW _ _ _ _; rw [Sp.belowTo_succ HEJ.out, HST.out]; exact ho3
          obtain ⟨p3, c3, rfl, -, -⟩ := ho3.open
          clear ho3 hb3
          go_wp2
          go_roundw
          case rel => exact ⟨j + 1, _, _, _, by omega, by go_num, rfl, HO3.out, HB3.out⟩
          case measure => simp [intOf]; omega
        · have HDK : Hid (Sp.dirAt (pl L) k = false) := by show _ = _; rw [HDIR.out]; exact beq_eq_false_iff_ne.2 hkind
          have HST : Hid (Sp.belowTo (pl L) f no path l (j + 1) = Sp.insT pw (Sp.belowTo (pl L) f no path l j)) := by
            show _ = _
            rw [Sp.belowTo_succ HEJ.out]
            unfold Sp.belowE
            simp only [Int.toNat_natCast]
            rw [if_neg (by rw [HDK.out]; simp), HQ.out]
          go_wp2
          go_roundw
          case rel => exact ⟨j + 1, p2, n2, c2, by omega, by go_num, rfl, by rw [HST.out]; exact HO2.out, HB2.out⟩
          case measure => simp [intOf]; omega
      · obtain rfl : m = j := by omega
        have HT : Hid (Sp.belowTo (pl L) f no path l m = Sp.below (pl L) (f + 1) no path l) := Sp.belowTo_all (by rw [HEA.out]; exact HM.out)
        go_wp2
        go_ret
        exact ⟨_, rfl, by rw [← HT.out]; exact HO.out, HBW.out⟩
end Go.Proofs.YtacghcoikekfeaaGreat
