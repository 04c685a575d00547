/- TRefPack, RRef, as one. -/
import Derived.Test.YtggoccfddnpelaaGreatR19
namespace Go.Proofs.YtggoccfddnpelaaGreat.Ks
open Go.ChangeShapes Go.WideShapes Go.ChangeAt Go.RowKit Go.Deep
set_option maxRecDepth 100000
def Pl.u8 (n:Int):UInt8:=UInt8.ofNat (n % 256).toNat
theorem Pl.txt_step (E:List UInt8) (t:Int) (s:ByteArray) (h1:1<=t) (h2:t<=255) (h3:s.size<=65535) :
    Pl.txt E ++ Pl.txt [Pl.u8 t] ++ Pl.txt [Pl.u8 ((s.size:Int) / 256)] ++ Pl.txt [Pl.u8 ((s.size:Int) % 256)] ++ s = Pl.txt (E ++ Pl.encOne (t,s)):=by
  have e1:(t % 256).toNat = t.toNat:=by omega
  have e2:((s.size:Int) / 256 % 256).toNat = s.size / 256:=by omega
  have e3:((s.size:Int) % 256 % 256).toNat = s.size % 256:=by omega
  have hs:s = Pl.txt s.data.toList:=(Pl.txt_toList s).symm
  simp only [Pl.u8,e1,e2,e3,Pl.encOne]
  rw [Pl.txt_append,Pl.txt_append,Pl.txt_append]
  have:=Pl.txt_append (E ++ [UInt8.ofNat t.toNat] ++ [UInt8.ofNat (s.size / 256)] ++ [UInt8.ofNat (s.size % 256)]) s.data.toList
  rw [← hs] at this
  rw [this]
  simp
theorem byte_u8 (n:Int) (w:World):Calls Tryz.prog 61 #[.int .i64 n] w fun e w'=>e = .returned (.string (Pl.txt [Pl.u8 n]))/\Below w.heap.size w w':=byte_any n w
theorem held_step {w w1 w2:World} {b:Nat} {x y:Value} (h:w1.cell? ⟨b,0,none⟩ = some x/\w1.cell? ⟨b,1,none⟩ = some y/\Below w.heap.size w w1/\b < w1.heap.size) (hb:Below w1.heap.size w1 w2) :
    w2.cell? ⟨b,0,none⟩ = some x/\w2.cell? ⟨b,1,none⟩ = some y/\Below w.heap.size w w2/\b < w2.heap.size:=by
  refine ⟨?_,?_,h.2.2.1.trans (hb.mono h.2.2.1.size),Nat.lt_of_lt_of_le h.2.2.2 hb.size⟩
  · rw [hb.cell (p:=⟨b,0,none⟩) h.2.2.2];exact h.1
  · rw [hb.cell (p:=⟨b,1,none⟩) h.2.2.2];exact h.2.1
theorem held_start {w wr:World} (hbl:Below w.heap.size w wr) (x y:Value) (T:TypeId) (nq:Nat) :
    ((wr.alloc (.cells #[x, y] T)).drewN nq).drew.cell? ⟨wr.heap.size, 0, none⟩ = some x ∧ ((wr.alloc (.cells #[x, y] T)).drewN nq).drew.cell? ⟨wr.heap.size, 1, none⟩ = some y ∧
      Below w.heap.size w ((wr.alloc (.cells #[x,y] T)).drewN nq).drew/\wr.heap.size < ((wr.alloc (.cells #[x,y] T)).drewN nq).drew.heap.size :=
  ⟨by simp,by simp,(Go.below_drewN (hbl.alloc hbl.size _) nq).drew,by simp⟩
set_option maxHeartbeats 2000000 in
theorem refPack_any (v : Value) (l : List (Int × ByteArray)) (w : World) (hv : FieldsAt w.heap.size w v l) (hE : (Pl.encs l).length ≤ 1099511627776) :
    Calls Tryz.prog 38 #[v] w fun e w'=>e = .returned (.tuple #[.string (Pl.packOut l),.int .i64 (Pl.packErr 1 l)])/\Below w.heap.size w w':=by
  rcases hv with ⟨ao,cap,rfl,rfl⟩ | ⟨b,off,cap,rfl,hB,hp,hlc,hm,hx⟩
  · go_enter Tryz.func38, Tryz.ntmps38
    go_wp2
    refine wp_loop_rounds 1 ?_
    rw [rounds_succ]
    go_wp2
    go_ret2
    exact ⟨rfl,Below.refl _ _⟩
  · unfold maxLen at hm
    obtain ⟨n,hn⟩:∃ n,l.length = n:=⟨_,rfl⟩
    rw [hn] at hp hlc hx ⊢
    have HN:Hid (l.length = n):=hn
    have HX:Hid (∀ i,i < n->w.cell? ⟨b,off + i * 2,none⟩ = some (.int .i64 (l.getD i (0,.empty)).1)/\w.cell? ⟨b,off + i * 2 + 1,none⟩ = some (.string (l.getD i (0,.empty)).2)):=hx
    have HE:Hid (∀ k,(Pl.encs (l.take k)).length<=1099511627776):=fun k=>Nat.le_trans (Pl.encs_take_le l k) hE
    clear hn hx hE
    go_enter Tryz.func38,Tryz.ntmps38
    go_wp2
    go_loopw [4,9] (fun r i wr=>∃ k:Nat,k<=n/\i = .int .i64 k/\Pl.okTo 1 l k/\r = .string (Pl.txt (Pl.encs (l.take k)))/\Below w.heap.size w wr) (fun _ i _=>n - (intOf i).toNat)
    case atStart=>exact ⟨0,Nat.zero_le _,rfl,fun i hi=>absurd hi (Nat.not_lt_zero _),rfl,Below.refl _ _⟩
    case round =>
      obtain ⟨k,hk,rfl,hok,rfl,hbl⟩:=hrel
      have HOK:Hid (Pl.okTo 1 l k):=hok
      clear hok
      have hsz:=hbl.size
      by_cases hlt:k < n
      · obtain ⟨c0, c1⟩ := HX.out k hlt
        rw [← hbl.cell (p:=⟨b,off + k * 2,none⟩) hB] at c0
        rw [← hbl.cell (p:=⟨b,off + k * 2 + 1,none⟩) hB] at c1
        generalize hf:l.getD k (0,.empty) = f at *
        have HF:Hid (l.getD k (0,.empty) = f):=hf
        clear hf
        obtain ⟨t,s⟩:=f
        by_cases h1:t < 1
        · have H : Hid (Pl.packOut l = Pl.txt [] ∧ Pl.packErr 1 l = 1) := Pl.pack_bad (by rw [HN.out]; exact hlt) HOK.out rfl HF.out (by simp [Pl.badAt, h1]) (by decide)
          go_wp2
          go_ret2
          rw [H.out.1,H.out.2]
          exact ⟨rfl,hbl.alloc hsz _⟩
        by_cases h2:255 < t
        · have H : Hid (Pl.packOut l = Pl.txt [] ∧ Pl.packErr 1 l = 1) := Pl.pack_bad (by rw [HN.out]; exact hlt) HOK.out rfl HF.out (by simp [Pl.badAt, h2]) (by decide)
          go_wp2
          go_ret2
          rw [H.out.1,H.out.2]
          exact ⟨rfl,hbl.alloc hsz _⟩
        by_cases h3:65535 < s.size
        · have H : Hid (Pl.packOut l = Pl.txt [] ∧ Pl.packErr 1 l = 2) := Pl.pack_bad (by rw [HN.out]; exact hlt) HOK.out rfl HF.out (by simp [Pl.badAt, h1, h2, h3]) (by decide)
          go_wp2
          go_ret2
          rw [H.out.1,H.out.2]
          exact ⟨rfl,hbl.alloc hsz _⟩
        have hs3:(s.size:Int)<=65535:=by omega
        have HEN:Hid (Pl.encs (l.take (k + 1)) = Pl.encs (l.take k) ++ Pl.encOne (t,s)):=Pl.encs_take_succ (by rw [HN.out];exact hlt) HF.out
        have hE1:=HE.out k
        generalize Pl.encs (l.take k) = E at *
        have hw1:IntKind.i64.wrap ((s.size:Int) / 256) = (s.size:Int) / 256:=by
          have:=Pl.wrap_i64_small (s.size / 256) (by omega)
          simpa using this
        have hw2:(s.size:Int).tmod 256 = (s.size:Int) % 256:=Int.tmod_eq_emod_of_nonneg (by omega)
        have hq1:¬ 9223372036854775807 < (Pl.txt E).size + (Pl.txt [Pl.u8 t]).size:=by simp only [Pl.txt_size,List.length_cons,List.length_nil];omega
        have hq2:¬ 9223372036854775807 < (Pl.txt E).size + (Pl.txt [Pl.u8 t]).size + (Pl.txt [Pl.u8 ((s.size:Int) / 256)]).size:=by simp only [Pl.txt_size,List.length_cons,List.length_nil];omega
        have hq3:¬ 9223372036854775807 < (Pl.txt E).size + (Pl.txt [Pl.u8 t]).size + (Pl.txt [Pl.u8 ((s.size:Int) / 256)]).size + (Pl.txt [Pl.u8 ((s.size:Int) % 256)]).size:=by simp only [Pl.txt_size,List.length_cons,List.length_nil];omega
        have hq4:¬ 9223372036854775807 < (Pl.txt E).size + (Pl.txt [Pl.u8 t]).size + (Pl.txt [Pl.u8 ((s.size:Int) / 256)]).size + (Pl.txt [Pl.u8 ((s.size:Int) % 256)]).size + s.size:=by simp only [Pl.txt_size,List.length_cons,List.length_nil];omega
        have HTX:Hid (Pl.txt E ++ Pl.txt [Pl.u8 t] ++ Pl.txt [Pl.u8 ((s.size:Int) / 256)] ++ Pl.txt [Pl.u8 ((s.size:Int) % 256)] ++ s = Pl.txt (E ++ Pl.encOne (t,s))):=Pl.txt_step E t s (by omega) (by omega) (by omega)
        by_cases hk0:k = 0
        · have HB : Hid (Pl.okTo 1 l (k + 1)) := Pl.okTo_succ HOK.out (by rw [HF.out]; simp [Pl.badAt, h1, h2, h3, Pl.lastAt, hk0])
          have hg:decide (0 < k) = false:=by simp [hk0]
          clear hk0
          go_wp2
          go_quiet (fail)
          go_wp2
          go_region_held3 (fun w'=>w'.cell? ⟨wr.heap.size,0,none⟩ = some (.int .i64 t)/\w'.cell? ⟨wr.heap.size,1,none⟩ = some (.string s)/\Below w.heap.size w w'/\wr.heap.size < w'.heap.size) (first | exact held_start hbl _ _ _ _ | exact held_step (by assumption) (by assumption) | go_keep) (first | (go_at_call 61;refine (byte_u8 _ _).mono ?_;rintro e w2 ⟨rfl,hb2⟩))
          go_wp2
          go_roundw
          case rel =>
            have hS:w2.cell? ⟨wr.heap.size,0,none⟩ = some (.int .i64 t)/\w2.cell? ⟨wr.heap.size,1,none⟩ = some (.string s)/\Below w.heap.size w w2/\wr.heap.size < w2.heap.size:=by assumption
            refine ⟨k + 1,by omega,by go_num,HB.out,?_,hS.2.2.1⟩
            rw [HEN.out,HTX.out]
          case measure=>simp [intOf];omega
        · obtain ⟨j, rfl⟩ : ∃ j, k = j + 1 := ⟨k - 1, by omega⟩
          have hg:decide (0 < j + 1) = true:=by simp
          obtain ⟨c2,_⟩:=HX.out j (by omega)
          generalize hla:(l.getD j (0,.empty)).1 = la at *
          have HLA:Hid (Pl.lastAt 1 l (j + 1) = la):=(Pl.lastAt_succ (x:=l.getD j (0,.empty)) rfl).trans hla
          clear hla
          rw [← (hbl.alloc hsz (.cells #[.int .i64 t,.string s] 45)).cell (p:=⟨b,off + j * 2,none⟩) hB] at c2
          have hj0:(j:Int) < (n:Int):=by omega
          by_cases h4:t < la
          · have H : Hid (Pl.packOut l = Pl.txt [] ∧ Pl.packErr 1 l = 11) := Pl.pack_bad (by rw [HN.out]; exact hlt) HOK.out HLA.out HF.out (by simp [Pl.badAt, h1, h2, h3, h4]) (by decide)
            go_wp2
            go_quiet (fail)
            go_wp2
            go_ret2
            rw [H.out.1,H.out.2]
            exact ⟨rfl,Go.below_drewN (hbl.alloc hsz _) _⟩
          · have HB : Hid (Pl.okTo 1 l (j + 1 + 1)) := Pl.okTo_succ HOK.out (by rw [HF.out, HLA.out]; simp [Pl.badAt, h1, h2, h3, h4])
            go_wp2
            go_quiet (fail)
            go_wp2
            go_region_held3 (fun w'=>w'.cell? ⟨wr.heap.size,0,none⟩ = some (.int .i64 t)/\w'.cell? ⟨wr.heap.size,1,none⟩ = some (.string s)/\Below w.heap.size w w'/\wr.heap.size < w'.heap.size) (first | exact held_start hbl _ _ _ _ | exact held_step (by assumption) (by assumption) | go_keep) (first | (go_at_call 61;refine (byte_u8 _ _).mono ?_;rintro e w2 ⟨rfl,hb2⟩))
            go_wp2
            go_roundw
            case rel =>
              have hS:w2.cell? ⟨wr.heap.size,0,none⟩ = some (.int .i64 t)/\w2.cell? ⟨wr.heap.size,1,none⟩ = some (.string s)/\Below w.heap.size w w2/\wr.heap.size < w2.heap.size:=by assumption
              refine ⟨j + 1 + 1,by omega,by go_num,HB.out,?_,hS.2.2.1⟩
              rw [HEN.out,HTX.out]
            case measure=>simp [intOf];omega
      · obtain rfl : k = n := by omega
        have H:Hid (Pl.packOut l = Pl.txt (Pl.encs l)/\Pl.packErr 1 l = 0):=Pl.pack_fine (by rw [HN.out];exact HOK.out)
        rw [List.take_of_length_le (by rw [HN.out];exact Nat.le_refl _)]
        go_wp2
        go_ret2
        rw [H.out.1,H.out.2]
        exact ⟨rfl,hbl⟩
end Go.Proofs.YtggoccfddnpelaaGreat.Ks
namespace Go.Proofs.YtggoccfddnpelaaGreat.Ks.Rs
open Go.ChangeShapes Go.WideShapes Go.ChangeAt Go.RowKit Go.Deep
set_option maxRecDepth 100000
open Go.Proofs.YtggoccfddnpelaaGreat.Ks.Ak
namespace Ak
open Go.Proofs.YtggoccfddnpelaaGreat.Ks.Ak
def rhand (no gen:Int):ByteArray:=if hnz no gen then hbytes no gen else ⟨#[]⟩
theorem rhand_le (a b:Int):(rhand a b).size<=16:=by unfold rhand;split;exact hbytes_le a b;decide
theorem encs_opt (l:List (Int × ByteArray)) (b:Bool) (x:Int × ByteArray):Pl.txt (Pl.encs (l ++ opt b x)) = Pl.txt (Pl.encs l) ++ (if b then Pl.txt (Pl.encOne x) else ⟨#[]⟩):=by
  unfold opt
  cases b with
  | true=>rw [if_pos rfl,if_pos rfl,Pl.txt_append];simp [Pl.encs]
  | false =>
    rw [if_neg (by decide),if_neg (by decide),List.append_nil]
    have:=Pl.txt_append (Pl.encs l) []
    rw [List.append_nil] at this
    exact this.symm
end Ak
open Go.Proofs.YtggoccfddnpelaaGreat.Ks.Rs.Ak
set_option maxHeartbeats 1000000 in
theorem rhand_is (no gen : Int) (w : World) (hn : no ≤ 9223372036854775807) (hg : gen ≤ 9223372036854775807) : Calls Tryz.prog 114 #[VH no gen] w fun e w' => e = .returned (.string (rhand no gen)) ∧ Below w.heap.size w w' := by
  have HB0:Hid (Below w.heap.size w (w.alloc (BH no gen))):=(Below.refl _ _).alloc (Nat.le_refl _) _
  have HA0:Hid ((w.alloc (BH no gen)).heap[w.heap.size]? = some (BH no gen)):=heap_alloc_new w _
  by_cases h:no = 0/\gen = 0
  · have H : Hid (rhand no gen = ⟨#[]⟩) := by show rhand no gen = _; unfold rhand hnz; simp [h.1, h.2]
    rw [H.out]
    obtain ⟨rfl,rfl⟩:=h
    go_enter Tryz.func114,Tryz.ntmps114
    go_wp2
    go_ret
    exact ⟨rfl,HB0.out⟩
  · have H : Hid (rhand no gen = Pl.numOut no 1 ++ Pl.numOut gen 6) := by
      show rhand no gen = _
      have:hnz no gen = true:=by
        unfold hnz
        simp
        omega
      unfold rhand
      rw [this,if_pos rfl]
      rfl
    have z1:=numOut_le no 1
    have z2:=numOut_le gen 6
    obtain ⟨y,hy⟩:∃ y,rhand no gen = y:=⟨_,rfl⟩
    rw [hy]
    rw [hy] at H
    clear hy
    by_cases h1:no = 0
    · have h2' : (gen == 0) = false := by simpa using fun h2 => h ⟨h1, h2⟩
      have h1':(no == 0) = true:=by simpa using h1
      clear h h1
      go_enter Tryz.func114,Tryz.ntmps114
      go_wp2_with fail
      refine (refNum_any no 1 _ hn).mono ?_
      rintro e w1 ⟨rfl,hb1⟩
      have HB1:Hid (Below w.heap.size w w1):=HB0.out.trans (hb1.mono HB0.out.size)
      obtain ⟨c0,c1⟩:=two_of (block_step HA0.out hb1)
      clear hb1
      go_wp2_with fail
      refine (refNum_any gen 6 _ hg).mono ?_
      rintro e w2 ⟨rfl,hb2⟩
      have HB2:Hid (Below w.heap.size w w2):=HB1.out.trans (hb2.mono HB1.out.size)
      generalize Pl.numOut no 1 = n1 at *
      generalize Pl.numOut gen 6 = n2 at *
      go_wp2
      go_ret
      rw [H.out]
      exact ⟨rfl,HB2.out⟩
    · have h1' : (no == 0) = false := by simpa using h1
      clear h h1
      go_enter Tryz.func114,Tryz.ntmps114
      go_wp2_with fail
      refine (refNum_any no 1 _ hn).mono ?_
      rintro e w1 ⟨rfl,hb1⟩
      have HB1:Hid (Below w.heap.size w w1):=HB0.out.trans (hb1.mono HB0.out.size)
      obtain ⟨c0,c1⟩:=two_of (block_step HA0.out hb1)
      clear hb1
      go_wp2_with fail
      refine (refNum_any gen 6 _ hg).mono ?_
      rintro e w2 ⟨rfl,hb2⟩
      have HB2:Hid (Below w.heap.size w w2):=HB1.out.trans (hb2.mono HB1.out.size)
      generalize Pl.numOut no 1 = n1 at *
      generalize Pl.numOut gen 6 = n2 at *
      go_wp2
      go_ret
      rw [H.out]
      exact ⟨rfl,HB2.out⟩
theorem one_field (w:World) (t:Int) (s:ByteArray) (T:TypeId):FieldsAt (w.alloc (.cells #[.int .i64 t,.string s] T)).heap.size (w.alloc (.cells #[.int .i64 t,.string s] T)) (.slice (some ⟨w.heap.size,0,none⟩) 1 1) [(t,s)]:=by
  refine .inr ⟨w.heap.size,0,1,rfl,by simp,by simp,by simp,by unfold maxLen;omega,fun i hi=>?_⟩
  obtain rfl:i = 0:=by simpa using hi
  exact ⟨by simp,by simp⟩
theorem bytes_is (n z:Int) (w:World) (hn:n<=9223372036854775807):Calls Tryz.prog 35 #[.int .i64 n,.int .i64 z] w fun e w'=>e = .returned (.string (Pl.numOut n z))/\Below w.heap.size w w':=by
  go_enter Tryz.func35,Tryz.ntmps35
  go_wp2_with fail
  refine (refNum_any n z _ hn).mono ?_
  rintro e w1 ⟨rfl,hb⟩
  go_wp2
  go_ret
  exact ⟨rfl,hb⟩
def Re.fl (t:Int) (s:ByteArray) (b:Bool):ByteArray:=if b then Pl.txt (Pl.encOne (t,s)) else ⟨#[]⟩
theorem Re.fl_le (t:Int) (s:ByteArray) (b:Bool):(Re.fl t s b).size<=3 + s.size:=by
  unfold Re.fl
  split
  · rw [Pl.txt_size,Pl.encOne_length];exact Nat.le_refl _
  · exact Nat.zero_le _
theorem field_is (t:Int) (s:ByteArray) (b:Bool) (w:World) (h1:1<=t) (h2:t<=255) (hs:s.size<=65535):Calls Tryz.prog 113 #[.int .i64 t,.string s,.bool b] w fun e w'=>e = .returned (.string (Re.fl t s b))/\Below w.heap.size w w':=by
  cases b with
  | false =>
    have H:Hid (Re.fl t s false = ⟨#[]⟩):=rfl
    rw [H.out]
    go_enter Tryz.func113,Tryz.ntmps113
    go_wp2
    go_ret
    exact ⟨rfl,Below.refl _ _⟩
  | true =>
    have hb:Pl.packErr 1 [(t,s)] = 0:=by
      have:Pl.badAt 1 (t,s) = 0:=by unfold Pl.badAt;simp only;rw [if_neg (by omega),if_neg (by omega),if_neg (by omega)]
      simp [Pl.packErr,this]
    have H:Hid (Pl.packOut [(t,s)] = Re.fl t s true):=by
      show Pl.packOut [(t,s)] = _
      unfold Re.fl
      rw [Pl.packOut,hb,if_pos rfl,if_pos rfl]
      simp [Pl.encs]
    have HE:Hid ((Pl.encs [(t,s)]).length<=1099511627776):=by
      have:=Pl.encOne_length (t,s)
      show (Pl.encs [(t,s)]).length<=_
      simp only [Pl.encs,List.flatMap_cons,List.flatMap_nil,List.append_nil] at this ⊢
      omega
    clear hb
    go_enter Tryz.func113,Tryz.ntmps113
    go_wp2_with fail
    refine (refPack_any _ [(t,s)] _ (one_field w t s _) HE.out).mono ?_
    rintro e w1 ⟨rfl,hb1⟩
    rw [H.out]
    go_wp2
    go_ret
    exact ⟨rfl,((Below.refl _ _).alloc (Nat.le_refl _) _).trans (hb1.mono (by simp))⟩
namespace Re
theorem fl_opt (l:List (Int × ByteArray)) (t:Int) (s:ByteArray) (b:Bool):Pl.txt (Pl.encs (l ++ opt b (t,s))) = Pl.txt (Pl.encs l) ++ fl t s b:=encs_opt l b (t,s)
theorem ref_four {r:Rep} (ha:At.right r.k r.l r.s r.t = true):fl 1 (Pl.numOut r.e 2) (r.e != 0) ++ fl 2 (rhand r.no r.gen) (hnz r.no r.gen) ++ fl 3 (At.packOut r.k r.l r.s r.t) (r.k != 0) ++ fl 4 r.data (!r.data.toList.isEmpty) = Pl.txt (Pl.encs (f4 r)):=by
  have e1:fl 1 (Pl.numOut r.e 2) (r.e != 0) = Pl.txt (Pl.encs (f1 r)):=by
    have:=fl_opt [] 1 (Pl.numOut r.e 2) (r.e != 0)
    rw [List.nil_append] at this
    unfold f1
    rw [this]
    have:Pl.txt (Pl.encs []) = ⟨#[]⟩:=rfl
    rw [this,Pl.ba_nil]
  have e2:fl 2 (rhand r.no r.gen) (hnz r.no r.gen) = fl 2 (hbytes r.no r.gen) (hnz r.no r.gen):=by
    unfold rhand fl
    cases hnz r.no r.gen <;> rfl
  have e3:(r.k != 0) = anz r.k r.l r.s r.t:=by
    have hp:=At.right_iff.1 ha
    unfold At.rightP at hp
    unfold anz
    by_cases hk:r.k = 0
    · obtain ⟨h1, h2, h3⟩ : r.l = 0 ∧ r.s = 0 ∧ r.t = 0 := by omega
      simp [hk,h1,h2,h3]
    · have h1 : (r.k == 0) = false := by simpa using hk
      have h2:(r.k != 0) = true:=by simpa using hk
      rw [h1,h2]
      rfl
  rw [e1,e2,e3]
  unfold f4
  rw [fl_opt]
  unfold f3
  rw [fl_opt]
  unfold f2
  rw [fl_opt]
  rfl
theorem prefix_le {r:Rep} (h:rightP r) (k:Nat):(Pl.encs (f4 r ++ ef (r.ents.take k))).length<=4000:=by
  have hu:=(up_fields h).2.2
  have e:fields r = (f4 r ++ ef (r.ents.take k)) ++ (ef (r.ents.drop k) ++ opt (r.n != 0) (6,Pl.numOut r.n 6)):=by
    have:ef r.ents = ef (r.ents.take k) ++ ef (r.ents.drop k):=by
      unfold ef
      rw [← List.map_append,List.take_append_drop]
    unfold fields f5
    rw [this]
    simp only [List.append_assoc]
  have e2:∀ a b:List (Int × ByteArray),Pl.encs (a ++ b) = Pl.encs a ++ Pl.encs b:=fun a b=>by unfold Pl.encs;rw [List.flatMap_append]
  rw [e,e2,List.length_append] at hu
  omega
theorem ents_step {r:Rep} {k:Nat} {x:Ent} (h:r.ents[k]? = some x):Pl.txt (Pl.encs (f4 r ++ ef (r.ents.take (k + 1)))) = Pl.txt (Pl.encs (f4 r ++ ef (r.ents.take k))) ++ fl 5 (Pl.numOut x.2.1 6 ++ Pl.numOut x.2.2.1 1 ++ Pl.numOut x.2.2.2 6 ++ x.1) true:=by
  obtain ⟨hk,rfl⟩:=List.getElem?_eq_some_iff.1 h
  have e:ef (r.ents.take (k + 1)) = ef (r.ents.take k) ++ opt true (5,ebytes r.ents[k]):=by
    rw [List.take_succ_eq_append_getElem hk]
    unfold ef opt
    rw [List.map_append]
    rfl
  rw [e,← List.append_assoc,fl_opt]
  unfold ebytes hbytes
  rw [Pl.ba_assoc (Pl.numOut r.ents[k].2.1 6) (Pl.numOut r.ents[k].2.2.1 1) (Pl.numOut r.ents[k].2.2.2 6)]
theorem ref_last {r:Rep} (h:right r = true):Pl.txt (Pl.encs (f5 r)) ++ fl 6 (Pl.numOut r.n 6) (r.n != 0) = packOut r:=by
  unfold packOut
  rw [if_pos h]
  unfold fields
  rw [fl_opt]
end Re
end Go.Proofs.YtggoccfddnpelaaGreat.Ks.Rs
