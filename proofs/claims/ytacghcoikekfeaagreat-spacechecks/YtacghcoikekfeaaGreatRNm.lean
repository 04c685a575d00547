/-
  sextonref11.Names: how many entries name an inode.
-/
import Derived.Test.YtacghcoikekfeaaGreatSpC
import Derived.Test.YtacghcoikekfeaaGreatFol
import Derived.Test.YtacghcoikekfeaaGreatSRef1
namespace Go.Proofs.YtacghcoikekfeaaGreat
open Go.ChangeShapes Go.WideShapes Go.ChangeAt Go.RowKit Go.Deep It
set_option maxRecDepth 100000
def Sp.toI (no : Int) (e : Sp.En) : Bool := e.2.2.1 == no
/-- How many entries name an inode's number. -/
def Sp.nmv (L : List Ino) (no : Int) : Nat := (Sp.allEnts L).countP (Sp.toI no)
theorem Sp.nmv_step {L : List Rw} {k : Nat} {x : Rw} (h : L[k]? = some x) (no : Int) : Sp.nmv (pl (L.take (k + 1))) no = Sp.nmv (pl (L.take k)) no + x.i.ents.countP (Sp.toI no) := by
  rw [List.take_add_one, h]
  simp [Sp.nmv, Sp.allEnts, List.countP_append]
theorem cntP_step {α : Type} {q : α → Bool} {l : List α} {j : Nat} {e : α} (h : l[j]? = some e) : (l.take (j + 1)).countP q = (l.take j).countP q + if q e = true then 1 else 0 := by
  rw [List.take_add_one, h]
  simp [List.countP_append, List.countP_cons]
theorem Sp.nmv_le {S : Nat → Prop} {w : World} {L : List Rw} (no : Int) (h : ∀ x ∈ L, Good S w x) : ∀ k, k ≤ L.length → Sp.nmv (pl (L.take k)) no ≤ k * 3518437208883
  | 0, _ => by simp [Sp.nmv, Sp.allEnts]
  | k + 1, hk => by
    have hx : L[k]? = some L[k] := List.getElem?_eq_getElem hk
    rw [Sp.nmv_step hx]
    have h1 := Sp.nmv_le no h k (by omega)
    have h2 := (h _ (List.mem_of_getElem? hx)).2.2.2.2
    have h3 : L[k].i.ents.countP (Sp.toI no) ≤ L[k].i.ents.length := List.countP_le_length
    omega
theorem tab_eight {w : World} {L : List Rw} {S : Nat → Prop} {ao : Option Addr} {n cap : Nat} (h : TabAt S w (.slice ao n cap) L) {i : Nat} {x : Rw} (hi : L[i]? = some x) :
    (∃ b off, ao = some ⟨b, off, none⟩ ∧ b < w.heap.size ∧ eight w b (off + i * 8) x) ∧ x.en = x.i.ents.length ∧ x.i.ents.length ≤ 3518437208883 ∧
    ∀ j e, x.i.ents[j]? = some e → ∃ b off, x.ep = some ⟨b, off, none⟩ ∧ b < w.heap.size ∧ ent4 w b (off + j * 4) e := by
  obtain ⟨ao', cap', hv, -, hx⟩ := h.open
  simp only [Value.slice.injEq] at hv
  obtain ⟨rfl, -, rfl⟩ := hv
  obtain ⟨h1, h2⟩ := hx i x hi
  refine ⟨h1, h2.len.2, h2.2.2.2.2, fun j e he => ?_⟩
  obtain ⟨eo, ecap, hev, -, hents⟩ := h2.2.1.open
  simp only [Value.slice.injEq] at hev
  obtain ⟨rfl, -, rfl⟩ := hev
  obtain ⟨b2, off2, h1, -, h3, hc⟩ := hents j e he
  exact ⟨b2, off2, h1, h3, hc 0 _ rfl, hc 1 _ rfl, hc 2 _ rfl, hc 3 _ rfl⟩
theorem ent4.below {w w' : World} {b o B : Nat} {e : Sp.En} (h : ent4 w b o e) (hb : Below B w w') (hB : b < B) : ent4 w' b o e :=
  ⟨(hb.cell (p := ⟨b, o, none⟩) hB).trans h.1, (hb.cell (p := ⟨b, o + 1, none⟩) hB).trans h.2.1, (hb.cell (p := ⟨b, o + 2, none⟩) hB).trans h.2.2.1, (hb.cell (p := ⟨b, o + 3, none⟩) hB).trans h.2.2.2⟩
set_option maxHeartbeats 2000000 in
theorem rnum_any {S : Nat → Prop} (v : Value) (L : List Rw) (no : Int) (w : World) (hv : TabAt S w v L) (hL : L.length ≤ 24) :
    Calls Tryz.prog 38 #[v, .int .i64 no] w fun e w' => e = .returned (.int .i64 (Sp.nmv (pl L) no : Nat)) ∧ Below w.heap.size w w' := by
  obtain ⟨ao, cap, rfl, -, -⟩ := hv.open
  obtain ⟨n, hn⟩ : ∃ n, L.length = n := ⟨_, rfl⟩
  have HLE : Hid (∀ k, k ≤ L.length → Sp.nmv (pl (L.take k)) no ≤ k * 3518437208883) := Sp.nmv_le no hv.2
  rw [hn] at hv hL ⊢
  have HN : Hid (L.length = n) := hn
  have HV : Hid (TabAt S w (.slice ao n cap) L) := hv
  obtain ⟨r, hr⟩ : ∃ r, Sp.nmv (pl L) no = r := ⟨_, rfl⟩
  have HR : Hid (Sp.nmv (pl L) no = r) := hr
  rw [hr]
  clear hr hn hv
  go_enter Tryz.func38, Tryz.ntmps38
  go_wp2
  go_loopw [5, 12] (fun g i wr => ∃ k : Nat, k ≤ n ∧ i = .int .i64 k ∧ g = .int .i64 (Sp.nmv (pl (L.take k)) no : Nat) ∧ Hid (Below w.heap.size w wr)) (fun _ i _ => n - (intOf i).toNat)
  case atStart => exact ⟨0, Nat.zero_le _, rfl, rfl, Below.refl _ _⟩
  case round =>
    obtain ⟨k, hk, rfl, rfl, HB⟩ := hrel
    have hsz := HB.out.size
    obtain ⟨g, hg⟩ : ∃ g, Sp.nmv (pl (L.take k)) no = g := ⟨_, rfl⟩
    have HGG : Hid (Sp.nmv (pl (L.take k)) no = g) := hg
    have hgb := HLE.out k (by rw [HN.out]; exact hk)
    rw [hg] at hgb ⊢
    clear hg
    by_cases hlt : k < n
    · obtain ⟨x, hxk⟩ : ∃ x, L[k]? = some x := ⟨_, List.getElem?_eq_getElem (by rw [HN.out]; exact hlt)⟩
      have HXK : Hid (L[k]? = some x) := hxk
      obtain ⟨⟨b, off, rfl, hB, hc⟩, hen, hel, hes⟩ := tab_eight HV.out hxk
      have HES : Hid (∀ j e, x.i.ents[j]? = some e → ∃ b off, x.ep = some ⟨b, off, none⟩ ∧ b < w.heap.size ∧ ent4 w b (off + j * 4) e) := hes
      obtain ⟨c0, c1, c2, c3, c4, c5, c6, c7⟩ := hc.below HB.out hB
      have hlt' : (k : Int) < (n : Int) := by omega
      obtain ⟨m, hm⟩ : ∃ m, x.en = m := ⟨_, rfl⟩
      obtain ⟨ep, hep⟩ : ∃ ep, x.ep = ep := ⟨_, rfl⟩
      have HM : Hid (x.i.ents.length = m) := hen.symm.trans hm
      have hmb : m ≤ 3518437208883 := by rw [← HM.out]; exact hel
      have HEP : Hid (x.ep = ep) := hep
      rw [hm, hep] at c6
      clear hc hxk hes hen hel hm hep
      go_wp2
      go_loopw [5, 19] (fun t i wr => ∃ j : Nat, j ≤ m ∧ i = .int .i64 j ∧ t = .int .i64 ((g + (x.i.ents.take j).countP (Sp.toI no) : Nat) : Int) ∧ Hid (Below w.heap.size w wr)) (fun _ i _ => m - (intOf i).toNat)
      case atStart => exact ⟨0, Nat.zero_le _, rfl, by simp, HB.out.alloc hsz _⟩
      case round =>
        obtain ⟨j, hj, rfl, rfl, HB2⟩ := hrel
        have hsz2 := HB2.out.size
        clear c0 c1 c2 c3 c4 c5 c6 c7
        obtain ⟨t, ht⟩ : ∃ t, (x.i.ents.take j).countP (Sp.toI no) = t := ⟨_, rfl⟩
        have HT : Hid ((x.i.ents.take j).countP (Sp.toI no) = t) := ht
        have htb : t ≤ j := by rw [← ht]; exact Nat.le_trans List.countP_le_length (by rw [List.length_take]; omega)
        rw [ht]
        clear ht
        by_cases hlt2 : j < m
        · obtain ⟨⟨s, ck, no2, gn⟩, hej⟩ : ∃ e, x.i.ents[j]? = some e := ⟨_, List.getElem?_eq_getElem (by rw [HM.out]; exact hlt2)⟩
          obtain ⟨b2, off2, hep, hb2, h4⟩ := HES.out j _ hej
          obtain rfl : ep = some ⟨b2, off2, none⟩ := HEP.out.symm.trans hep
          obtain ⟨d0, d1, d2, d3⟩ := h4.below HB2.out hb2
          simp only at d0 d1 d2 d3
          have hlt2' : (j : Int) < (m : Int) := by omega
          have HST : Hid ((x.i.ents.take (j + 1)).countP (Sp.toI no) = t + if no2 = no then 1 else 0) := by
            show _ = _
            rw [cntP_step hej, HT.out]
            simp [Sp.toI]
          clear hej hep h4
          by_cases he : no2 = no
          · subst he
            rw [if_pos rfl] at HST
            go_wp2
            go_roundw
            case rel => exact ⟨j + 1, by omega, by go_num, by rw [HST.out]; go_num, HB2.out.alloc hsz2 _⟩
            case measure => simp [intOf]; omega
          · rw [if_neg he] at HST
            go_wp2
            go_roundw
            case rel => exact ⟨j + 1, by omega, by go_num, by rw [HST.out]; rfl, HB2.out.alloc hsz2 _⟩
            case measure => simp [intOf]; omega
        · obtain rfl : j = m := by omega
          have HT2 : Hid (Sp.nmv (pl (L.take (k + 1))) no = g + t) := by
            show _ = _
            rw [Sp.nmv_step HXK.out, HGG.out, ← HT.out, List.take_of_length_le (by rw [HM.out]; exact Nat.le_refl _)]
          go_wp2
          go_roundw
          case rel => exact ⟨k + 1, by omega, by go_num, by rw [HT2.out], HB2.out⟩
          case measure => simp [intOf]; omega
    · obtain rfl : k = n := by omega
      have HT : Hid (r = g) := by
        show r = g
        rw [← HGG.out, List.take_of_length_le (by rw [HN.out]; exact Nat.le_refl _), HR.out]
      go_wp2
      go_ret
      rw [HT.out]
      exact ⟨rfl, HB.out⟩
end Go.Proofs.YtacghcoikekfeaaGreat
