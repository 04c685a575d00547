/- Used, Refuse, Own, With, as one. -/
import Derived.Laws.ResultCell
import Derived.OwnWalk
import Derived.Deep.MidRow
import Derived.Test.YtneojimodomohaaGreatV2
set_option maxHeartbeats 8000000
set_option maxRecDepth 100000
namespace Go.Proofs.YtneojimodomohaaGreat
open Go.ChangeShapes Go.WideShapes Go.ChangeAt Go.RowKit Go.Deep It
def It.checkErr (L:List Ino):Int:=if It.right L then 0 else 4
abbrev BH (a b:Int):Obj:=.cells #[.int .i64 a,.int .i64 b] 28
abbrev VH (h:Int × Int):Value:=.agg #[.int .i64 h.1,.int .i64 h.2]
theorem infoH:(Tryz.prog.info? 28).map (fun i=>(i.zero,i.size,i.bytes)) = some (some (.agg #[.int .i64 0,.int .i64 0]),2,16):=by kernel_rfl
theorem It.pl_get {L:List Rw} {i:Nat} {x:Rw} (h:L[i]? = some x):(It.pl L)[i]? = some x.i:=by simp [It.pl,h]
theorem It.not_right_of {L:List Ino} (h:It.right L = true->False):It.checkErr L = 4:=by
 unfold It.checkErr;rw [if_neg h]
theorem check_any {S : Nat → Prop} (v : Value) (L : List Rw) (w : World) (hv : TabAt S w v L) :
  Calls Tryz.prog 68 #[v] w fun e w'=>e = .returned (.int .i64 (It.checkErr (pl L)))/\Bw w w':=by
 obtain ⟨ao,cap,rfl,hm,hx⟩:=hv.open;clear hv;unfold maxLen at hm;obtain ⟨n,hn⟩:=qE L.length;rw [hn] at hm ⊢;have HN:Hid (L.length = n):=hn;have HX:Hid (∀ i x,L[i]? = some x->(∃ b off,ao = some ⟨b,off,none⟩/\b < w.heap.size/\eight w b (off + i * 8) x)/\Good S w x):=hx;clear hn hx
 by_cases hr:1<=n/\n<=24
 ·have h0 : L[0]? = some (L[0]'(by have := HN.out; omega)) := List.getElem?_eq_getElem _;obtain ⟨x,hx0⟩:∃ x,L[0]? = some x:=⟨_,h0⟩;clear h0;obtain ⟨⟨b,off,rfl,hB,hc⟩,hg⟩:=HX.out 0 x hx0;have c1:=hc.2.1;simp only [Nat.zero_mul,Nat.add_zero] at c1;have HW:Hid ((1:Int)<=(n:Int)/\(n:Int)<=24):=⟨by omega,by omega⟩;have hn0:(0:Int) < (n:Int):=by omega
  by_cases hk:x.i.kind = 2
  ·have hk' : (x.i.kind == 2) = true := by simp [hk]
   have HR0:Hid (rootB (pl L) = true):=by
    cases L with
    | nil=>simp at hx0
    | cons y l =>
     simp at hx0;subst hx0;exact decide_eq_true hk
   rw [hk] at c1;generalize x.i.kind = kk at hk';clear hc hg hk;go_enter Tryz.func68,Tryz.ntmps68;go_wp2_with fail;refine (within_yes _ _ _ _ HW.out).mono ?_;rintro e w' ⟨rfl,rfl⟩;go_wp2;go_loopw [19] (fun i wr=>∃ k:Nat,k<=n/\i = .int .i64 k/\(∀ y∈L.take k,one y.i = true)/\Bw w' wr) (fun i _=>n - (intOf i).toNat)
   case atStart=>exact ⟨0,Nat.zero_le _,rfl,by simp,Below.refl _ _⟩
   case round =>
    obtain ⟨k,hk,rfl,hall,hbl⟩:=hrel;have HALL:Hid (∀ y∈L.take k,one y.i = true):=hall;clear hall;have hsz:=hbl.size
    by_cases hlt:k < n
    ·have h0:L[k]? = some (L[k]'(by have:=HN.out;omega)):=List.getElem?_eq_getElem _;obtain ⟨y,hyk⟩:∃ y,L[k]? = some y:=⟨_,h0⟩;clear h0;obtain ⟨⟨b',off',hbe,hB',hc'⟩,hg'⟩:=HX.out k y hyk
     cases hbe
     obtain ⟨d0,d1,d2,d3,d4,d5,d6,d7⟩:=hc'.below hbl hB';have HGY:Hid (Good S wr y):=(hg'.up hbl);have HT:Hid (L.take (k + 1) = L.take k ++ [y]):=It.take_succ hyk;have HMY:Hid (y∈L):=List.mem_of_getElem? hyk;have hlt':(k:Int) < (n:Int):=by omega
     clear hyk hc' hg';go_wp2_with fail;refine (right_any y _ (HGY.out.up (qG _ _))).mono ?_;rintro e w2 ⟨rfl,hb2⟩;have HB2:Hid _:=(hbl.alloc hsz _).trans (hb2.mono (by simp;omega));clear hb2
     cases ho:one y.i with
     | false =>
      have HE:Hid (It.checkErr (pl L) = 4):=It.not_right_of fun h=>by
       have:=(It.right_iff.1 h).2.2 y.i (List.mem_map.2 ⟨y,HMY.out,rfl⟩);rw [ho] at this
       cases this
      clear ho;go_wp2;go_ret;rw [HE.out];exact ⟨rfl,HB2.out⟩
     | true =>
      have HO:Hid _:=ho;clear ho;go_wp2
      go_roundw
      case rel =>
       refine ⟨k + 1,by omega,by go_num,fun z hz=>?_,HB2.out⟩;rw [HT.out,List.mem_append] at hz;rcases hz with hz | hz
       ·exact HALL.out z hz
       ·simp at hz;subst hz;exact HO.out
      case measure=>simp [intOf];omega
    ·obtain rfl:k = n:=by omega
     have HE:Hid (It.checkErr (pl L) = 0):=by
      show It.checkErr (pl L) = 0;unfold It.checkErr;rw [if_pos];refine It.right_iff.2 ⟨?_,HR0.out,fun z hz=>?_⟩
      ·have:=HN.out;simp only [pl,List.length_map];omega
      ·obtain ⟨y,hy,rfl⟩:=List.mem_map.1 hz;refine HALL.out y ?_;rw [← HN.out,List.take_length];exact hy
     go_wp2;go_ret;rw [HE.out];exact ⟨rfl,hbl⟩
  ·have hk':(x.i.kind == 2) = false:=by simp [hk]
   have HE:Hid (It.checkErr (pl L) = 4):=It.not_right_of fun h=>by
    have:=(It.right_iff.1 h).2.1
    cases L with
    | nil=>simp at hx0
    | cons y l =>
     simp at hx0;subst hx0;exact hk (of_decide_eq_true this)
   clear hc hg hk;go_enter Tryz.func68,Tryz.ntmps68;go_wp2_with fail;refine (within_yes _ _ _ _ HW.out).mono ?_;rintro e w' ⟨rfl,rfl⟩;go_wp2;go_ret;rw [HE.out];exact ⟨rfl,Below.refl _ _⟩
 ·have HE:Hid (It.checkErr (pl L) = 4):=It.not_right_of fun h=>by
   have:=(It.right_iff.1 h).1;simp only [pl,List.length_map] at this;have:=HN.out;omega
  have HW:Hid (¬ ((1:Int)<=(n:Int)/\(n:Int)<=24)):=show ¬ _ by omega
  clear hr;go_enter Tryz.func68,Tryz.ntmps68;go_wp2_with fail;refine (within_no _ _ _ _ HW.out).mono ?_;rintro e w' ⟨rfl,rfl⟩;go_wp2;go_ret;rw [HE.out];exact ⟨rfl,Below.refl _ _⟩
theorem one_hand (w:World) (a b:Int) (B:Nat) (h:w.heap[B]? = some (BH a b)):AtW EH w (.slice (some ⟨B,0,none⟩) 1 1) [(a,b)]:=by
 refine .inr ⟨B,0,1,rfl,trivial,(qL h),by simp,by simp,by simp [maxLen],fun j u hj=>?_⟩;have hj':[Value.int .i64 a,.int .i64 b][j]? = some u:=hj
 match j,hj' with
 | 0,hj'=>simp [World.cell?,h] at hj' ⊢;exact hj'
 | 1,hj'=>simp [World.cell?,h] at hj' ⊢;exact hj'
theorem used_any {S:Nat->Prop} (v:Value) (L:List Rw) (w:World) (hv:TabAt S w v L) (hL:L.length<=1466015503701) :
  Calls Tryz.prog 130 #[v] w fun e w'=>∃ u,e = .returned u/\AtW EH w' u (used (pl L))/\Bw w w':=by
 obtain ⟨i0,hi,hz0,hz1,hz2⟩:=info_parts infoH;obtain ⟨ao,cap,rfl,hm,hx⟩:=hv.open;clear hv;unfold maxLen at hm;obtain ⟨n,hn⟩:=qE L.length;rw [hn] at hm hL ⊢;have HN:Hid (L.length = n):=hn;have HX:Hid (∀ i x,L[i]? = some x->(∃ b off,ao = some ⟨b,off,none⟩/\b < w.heap.size/\eight w b (off + i * 8) x)/\Good S w x):=hx;clear hn hx;go_enter Tryz.func130,Tryz.ntmps130;go_wp2;go_loopw [3,8] (fun u i wr=>∃ k:Nat,k<=n/\i = .int .i64 k/\Row EH wr w.heap.size 28 u (used ((pl L).take k))/\Hid (Bw w wr)) (fun _ i _=>n - (intOf i).toNat)
 case atStart=>exact ⟨0,Nat.zero_le _,rfl,Row.nil _ _ _ _,Below.refl _ _⟩
 case round =>
  obtain ⟨k,hk,rfl,hrow,HB⟩:=hrel
  by_cases hlt:k < n
  ·have h0:L[k]? = some (L[k]'(by have:=HN.out;omega)):=List.getElem?_eq_getElem _;obtain ⟨y,hyk⟩:∃ y,L[k]? = some y:=⟨_,h0⟩;clear h0;obtain ⟨⟨b,off,rfl,hB',hc'⟩,_⟩:=HX.out k y hyk;obtain ⟨d0,d1,d2,d3,d4,d5,d6,d7⟩:=hc'.below HB.out hB';have HU:=It.used_take_succ (It.pl_get hyk);have hul:=It.used_length ((pl L).take k);rw [List.length_take] at hul;obtain ⟨pu,cu,hu⟩:=hrow.slice;generalize used ((pl L).take k) = O at hrow hu HU hul;obtain ⟨q,hq⟩:=qE O.length;have HQ:Hid (O.length = q):=hq;rw [hq] at hu hul;have hqk:q<=k:=by omega
   subst hu;have hlt':(k:Int) < (n:Int):=by omega
   clear hyk hc' hq hul
   by_cases hkd:y.i.kind = 0
   ·rw [if_pos hkd,List.append_nil] at HU;have hkd':(y.i.kind == 0) = true:=by simp [hkd]
    have HU2:Hid (used ((pl L).take (k + 1)) = O):=HU;have HR:Hid (Row EH wr w.heap.size 28 (.slice pu q cu) O):=hrow;clear hkd HU hrow;go_wp2
    go_roundw
    case rel=>exact ⟨k + 1,by omega,by go_num,by rw [HU2.out];exact HR.out.still (World.grownBy_alloc _ _ _),HB.out.alloc HB.out.size _⟩
    case measure=>simp [intOf];omega
   ·rw [if_neg hkd] at HU;have hkd':(y.i.kind == 0) = false:=by simp [hkd]
    have HU2:Hid (used ((pl L).take (k + 1)) = O ++ [((k:Int),y.i.gen)]):=HU;have HR:Hid (Row EH wr w.heap.size 28 (.slice pu q cu) O):=hrow;have hbs:=HB.out.size;obtain ⟨OB,hOB⟩:=qF (Obj.cells #[.int .i64 y.i.gen,.int .i64 y.i.kind,.int .i64 y.i.links,.int .i64 y.i.size,.int .i64 y.i.stamp,.slice y.rp y.rn y.rc,.slice y.ep y.en y.ec,.int .i64 y.i.next] 58);have HI:Hid (AtW EH ((wr.alloc OB).alloc (BH k y.i.gen)) (.slice (some ⟨wr.heap.size + 1,0,none⟩) 1 1) [((k:Int),y.i.gen)]):=by
     refine one_hand _ _ _ _ ?_;have:=heap_alloc_new (wr.alloc OB) (BH k y.i.gen);rw [show (wr.alloc OB).heap.size = wr.heap.size + 1 by simp] at this;exact this
    rw [hOB] at HI;clear hkd HU hrow hOB
    go_wp2_with (at_builtin;refine wpList_row _ rfl _ _ 98 rfl EH (fun _=>True) w.heap.size 28 i0 (.agg #[.int .i64 0,.int .i64 0]) 16 Tryz.underlying98 hi hz0 hz1 hz2 rfl (.slice pu q cu) O rfl ((HR.out.still (World.grownBy_alloc _ _ _)).still (World.grownBy_alloc _ _ _)) _ [((k:Int),y.i.gen)] rfl HI.out (by have:=HQ.out;unfold maxLen;simp;omega) (by have:=HQ.out;simp;omega) (by simp;omega) ?_;intro v7 w7 hrow7 hg7 hmv7)
    have HB7:Hid (Bw w w7):=((HB.out.alloc hbs _).alloc (by simp;omega) _).grown hg7 (by simp;omega) (fun i hi=>(HR.out.lt i hi).1);have HR7:Hid _:=hrow7;clear hrow7 hg7 hmv7;go_wp2
    go_roundw
    case rel=>exact ⟨k + 1,by omega,by go_num,by rw [HU2.out];exact HR7.out,HB7⟩
    case measure=>simp [intOf];omega
  ·obtain rfl:k = n:=by omega
   have HE:Hid (AtW EH wr u3 (used (pl L))/\Bw w wr):=by
    have h:=hrow.at.wide;rw [List.take_of_length_le (by have:=HN.out;simp only [pl,List.length_map];omega)] at h;exact ⟨h,HB.out⟩
   obtain ⟨pu,cu,hu⟩:=hrow.slice;generalize (used ((pl L).take k)).length = q at hu;subst hu;clear hrow;go_wp2;go_ret;exact ⟨_,rfl,HE.out⟩
theorem index_any {S:Nat->Prop} (v:Value) (l:List (Int × Int)) (a b:Int) (w:World) (hv:At EH S w v l) :
  Calls Tryz.prog 134 #[v,.agg #[.int .i64 a,.int .i64 b]] w fun e w'=>∃ r:Int,e = .returned (.int .i64 r)/\decide (0<=r) = decide ((a,b)∈l)/\Bw w w':=by
 obtain ⟨ao,cap,rfl,hm,hx⟩:=hv.open;clear hv;unfold maxLen at hm;obtain ⟨n,hn⟩:=qE l.length;rw [hn] at hm ⊢;have HN:Hid (l.length = n):=hn;have HX:Hid (∀ i x,l[i]? = some x->∃ b off,ao = some ⟨b,off,none⟩/\S b/\b < w.heap.size/\∀ k u,(EH.cells x)[k]? = some u->w.cell? ⟨b,off + (i * 2 + k),none⟩ = some u):=hx;have HB0:Hid (Bw w (w.alloc (BH a b))):=qG _ _;obtain ⟨W,hW⟩:=qF (w.alloc (BH a b));have e0:W.cell? ⟨w.heap.size,0,none⟩ = some (.int .i64 a):=by rw [hW];simp
 have e1:W.cell? ⟨w.heap.size,1,none⟩ = some (.int .i64 b):=by rw [hW];simp
 have hws:w.heap.size < W.heap.size:=by rw [hW];simp
 rw [← hW] at HB0;clear hn hx;go_enter Tryz.func134,Tryz.ntmps134;go_wp2;rw [← hW];clear hW;go_loopw [8] (fun i wr=>∃ k:Nat,k<=n/\i = .int .i64 k/\(a,b) ∉ l.take k/\Bw W wr) (fun i _=>n - (intOf i).toNat)
 case atStart=>exact ⟨0,Nat.zero_le _,rfl,by simp,Below.refl _ _⟩
 case round =>
  obtain ⟨k,hk,rfl,hno,hbl⟩:=hrel;have HNO:Hid ((a,b) ∉ l.take k):=hno;clear hno;rw [← hbl.cell (p:=⟨w.heap.size,0,none⟩) hws] at e0;rw [← hbl.cell (p:=⟨w.heap.size,1,none⟩) hws] at e1
  by_cases hlt:k < n
  ·have h0:l[k]? = some (l[k]'(by have:=HN.out;omega)):=List.getElem?_eq_getElem _;obtain ⟨y,hyk⟩:∃ y,l[k]? = some y:=⟨_,h0⟩;clear h0;obtain ⟨b',off,rfl,_,hB,hc⟩:=HX.out k y hyk;have hBW:b' < W.heap.size:=by omega
   have c0:=hc 0 _ rfl;have c1:=hc 1 _ rfl;rw [← HB0.out.cell (p:=⟨b',off + (k * 2 + 0),none⟩) hB,← hbl.cell (p:=⟨b',off + (k * 2 + 0),none⟩) hBW,Nat.add_zero] at c0;rw [← HB0.out.cell (p:=⟨b',off + (k * 2 + 1),none⟩) hB,← hbl.cell (p:=⟨b',off + (k * 2 + 1),none⟩) hBW,← Nat.add_assoc] at c1;have HT:Hid _:=It.take_succ hyk;have HMY:Hid _:=List.mem_of_getElem? hyk;have hlt':(k:Int) < (n:Int):=by omega
   have hk0:(0:Int)<=(k:Int):=by omega
   obtain ⟨ya,yb⟩:=y;simp only at c0 c1;clear hyk hc hB hBW
   by_cases h:a = ya/\b = yb
   ·have HE:Hid (decide ((0:Int)<=(k:Int)) = decide ((a,b)∈l)):=by
     show _ = _;rw [decide_eq_true hk0,decide_eq_true (show (a,b)∈l by rw [h.1,h.2];exact HMY.out)]
    obtain ⟨rfl,rfl⟩:=h;go_wp2
    go_quiet (fail)
    go_wp2;go_ret;exact ⟨_,rfl,HE.out,Go.below_drewN (HB0.out.trans (hbl.mono HB0.out.size)) _⟩
   ·have HNY:Hid ((a,b) ∉ l.take (k + 1)):=by
     show (a,b) ∉ l.take (k + 1);rw [HT.out,List.mem_append];rintro (hh | hh)
     ·exact HNO.out hh
     ·simp at hh;exact h hh
    have hq:(a == ya && b == yb) = false:=by simpa using h
    have hq2:(a == ya) = true->(b == yb) = false:=fun h1=>by simpa [h1] using hq
    by_cases h1:a = ya
    ·subst h1;have h2:(b == yb) = false:=hq2 (by simp);clear h hq hq2;go_wp2
     go_quiet (fail)
     go_wp2
     go_roundw
     case rel=>exact ⟨k + 1,by omega,by go_num,HNY.out,Go.below_drewN hbl _⟩
     case measure=>simp [intOf];omega
    ·have h2:(a == ya) = false:=by simp [h1]
     clear h hq hq2 h1;go_wp2
     go_quiet (fail)
     go_wp2
     go_roundw
     case rel=>exact ⟨k + 1,by omega,by go_num,HNY.out,Go.below_drewN hbl _⟩
     case measure=>simp [intOf];omega
  ·obtain rfl:k = n:=by omega
   have HE:Hid (decide ((0:Int)<=-1) = decide ((a,b)∈l)):=by
    have:=HNO.out;rw [List.take_of_length_le (by have:=HN.out;omega)] at this;show _ = _;rw [decide_eq_false this];rfl
   go_wp2;go_ret;exact ⟨_,rfl,HE.out,HB0.out.trans (hbl.mono HB0.out.size)⟩
theorem contains_any {S:Nat->Prop} (v:Value) (l:List (Int × Int)) (a b:Int) (w:World) (hv:At EH S w v l) :
  Calls Tryz.prog 77 #[v,.agg #[.int .i64 a,.int .i64 b]] w fun e w'=>e = .returned (.bool (decide ((a,b)∈l)))/\Bw w w':=by
 have HV:Hid (At EH S (w.alloc (BH a b)) v l):=hv.up (qG _ _);obtain ⟨ao,cap,rfl,hm,hx⟩:=hv.open;clear hv hx;go_enter Tryz.func77,Tryz.ntmps77;go_wp2_with fail;refine (index_any _ l a b _ HV.out).mono ?_;rintro e w1 ⟨r,rfl,hr,hb⟩;have HB:Hid _:=(qG _ _).trans (hb.mono (by simp));have HR:Hid _:=hr;clear hr hb;go_wp2;go_ret;refine ⟨?_,HB.out⟩;rw [← HR.out];rfl
theorem TabAt.drew {S:Nat->Prop} {w:World} {v:Value} {L:List Rw} (h:TabAt S w v L):TabAt S w.drew v L:=h
theorem two_next {w w':World} {b o1 o2:Nat} {x y:Value} (h:w.cell? ⟨b,o1,none⟩ = some x/\w.cell? ⟨b,o2,none⟩ = some y) (hb:Bw w w'):w'.cell? ⟨b,o1,none⟩ = some x/\w'.cell? ⟨b,o2,none⟩ = some y :=
 ⟨(hb.cell (p:=⟨b,o1,none⟩) (World.block_lt_of_cell? _ _ h.1)).trans h.1,(hb.cell (p:=⟨b,o2,none⟩) (World.block_lt_of_cell? _ _ h.2)).trans h.2⟩
theorem refuse_any {S:Nat->Prop} (v:Value) (L:List Rw) (a b:Int) (w:World) (hv:TabAt S w v L) :
  Calls Tryz.prog 143 #[v,.agg #[.int .i64 a,.int .i64 b]] w fun e w'=>e = .returned (.int .i64 (findErr (pl L) a b))/\Bw w w':=by
 have HB0:Hid (Bw w (w.alloc (BH a b))):=qG _ _;obtain ⟨W,hW⟩:=qF (w.alloc (BH a b));have e0:W.cell? ⟨w.heap.size,0,none⟩ = some (.int .i64 a):=by rw [hW];simp
 have e1:W.cell? ⟨w.heap.size,1,none⟩ = some (.int .i64 b):=by rw [hW];simp
 have hws:w.heap.size < W.heap.size:=by rw [hW];simp
 rw [← hW] at HB0;have HV:Hid (TabAt S W v L):=hv.up HB0.out;obtain ⟨ao,cap,rfl,_,_⟩:=hv.open;clear hv
 by_cases hr:It.right (pl L) = true
 ·have HC:Hid (It.checkErr (pl L) = 0):=by show It.checkErr (pl L) = 0;unfold It.checkErr;rw [if_pos hr]
  have HL:Hid (L.length<=1466015503701):=by
   have:=(It.right_iff.1 hr).1;simp only [pl,List.length_map] at this;show L.length<=_;omega
  have HF:Hid (findErr (pl L) a b = if decide ((a,b)∈used (pl L)) = true then 0 else 401):=by
   show findErr (pl L) a b = _;unfold findErr;rw [if_pos hr];simp only [decide_eq_true_eq,It.mem_used]
  cases hd:decide ((a,b)∈used (pl L)) with
  | true =>
   have HD:Hid (decide ((a,b)∈used (pl L)) = true):=hd;have HF2:Hid (findErr (pl L) a b = 0):=by show findErr (pl L) a b = 0;rw [HF.out,hd];rfl
   rw [HF2.out];clear HF HF2 hr hd;go_enter Tryz.func143,Tryz.ntmps143;go_wp2_with fail;rw [← hW];refine (check_any _ L _ HV.out).mono ?_;rintro e w1 ⟨rfl,hb1⟩;rw [HC.out];have HB1:=qJ HB0 hb1;have HV1:Hid (TabAt S w1 (.slice ao L.length cap) L):=HV.out.up hb1;have HSS:Hid _:=two_next ⟨e0,e1⟩ hb1;clear hb1 hW HV;go_wp2_with fail
   go_region_held3 (fun w'=>w'.cell? ⟨w.heap.size,0,none⟩ = some (.int .i64 a)/\w'.cell? ⟨w.heap.size,1,none⟩ = some (.int .i64 b)) (first | exact HSS.out | exact two_next (by assumption) (by assumption)) (first
    | (go_at_call 130;refine (used_any (S:=S) _ L _ HV1.out.drew HL.out).mono ?_;rintro e w2 ⟨u2,rfl,hu2,hb2⟩)
    | (go_at_call 77;refine (contains_any _ (used (pl L)) a b _ hu2).mono ?_;rintro e w3 ⟨rfl,hb3⟩;rw [HD.out]))
   have HB3:Hid (Bw w w3):=by
    have b2:Bw w1 w2:=⟨hb2.os,hb2.tape,hb2.output,hb2.size,hb2.block⟩;have h2:=HB1.out.trans (b2.mono HB1.out.size);exact h2.trans (hb3.mono h2.size)
   clear hb2 hb3 hu2;go_wp2;go_ret;exact ⟨rfl,HB3.out⟩
  | false =>
   have HD:Hid _:=hd;have HF2:Hid (findErr (pl L) a b = 401):=by show findErr (pl L) a b = 401;rw [HF.out,hd];rfl
   rw [HF2.out];clear HF HF2 hr hd;go_enter Tryz.func143,Tryz.ntmps143;go_wp2_with fail;rw [← hW];refine (check_any _ L _ HV.out).mono ?_;rintro e w1 ⟨rfl,hb1⟩;rw [HC.out];have HB1:=qJ HB0 hb1;have HV1:Hid (TabAt S w1 (.slice ao L.length cap) L):=HV.out.up hb1;have HSS:Hid _:=two_next ⟨e0,e1⟩ hb1;clear hb1 hW HV;go_wp2_with fail
   go_region_held3 (fun w'=>w'.cell? ⟨w.heap.size,0,none⟩ = some (.int .i64 a)/\w'.cell? ⟨w.heap.size,1,none⟩ = some (.int .i64 b)) (first | exact HSS.out | exact two_next (by assumption) (by assumption)) (first
    | (go_at_call 130;refine (used_any (S:=S) _ L _ HV1.out.drew HL.out).mono ?_;rintro e w2 ⟨u2,rfl,hu2,hb2⟩)
    | (go_at_call 77;refine (contains_any _ (used (pl L)) a b _ hu2).mono ?_;rintro e w3 ⟨rfl,hb3⟩;rw [HD.out]))
   have HB3:Hid (Bw w w3):=by
    have b2:Bw w1 w2:=⟨hb2.os,hb2.tape,hb2.output,hb2.size,hb2.block⟩;have h2:=HB1.out.trans (b2.mono HB1.out.size);exact h2.trans (hb3.mono h2.size)
   clear hb2 hb3 hu2;go_wp2;go_ret;exact ⟨rfl,HB3.out⟩
 ·have HC:Hid (It.checkErr (pl L) = 4):=by show It.checkErr (pl L) = 4;unfold It.checkErr;rw [if_neg hr]
  have HF:Hid (findErr (pl L) a b = 4):=by show findErr (pl L) a b = 4;unfold findErr;rw [if_neg hr]
  rw [HF.out];clear HF hr;go_enter Tryz.func143,Tryz.ntmps143;go_wp2_with fail;rw [← hW];refine (check_any _ L _ HV.out).mono ?_;rintro e w1 ⟨rfl,hb1⟩;rw [HC.out];have HB1:=qJ HB0 hb1;clear hb1 hW;go_wp2;go_ret;exact ⟨rfl,HB1.out⟩
theorem infoR:(Tryz.prog.info? 60).map (fun i=>(i.zero,i.size,i.bytes)) = some (some (.agg #[.int .i64 0,.string ⟨#[]⟩]),2,24):=by kernel_rfl
theorem infoE:(Tryz.prog.info? 110).map (fun i=>(i.zero,i.size,i.bytes)) = some (some (.agg #[.string ⟨#[]⟩,.int .i64 0,.int .i64 0,.int .i64 0]),4,40):=by kernel_rfl
theorem infoI:(Tryz.prog.info? 58).map (fun i=>(i.zero,i.size,i.bytes)) = some (some (.agg #[.int .i64 0,.int .i64 0,.int .i64 0,.int .i64 0,.int .i64 0,.slice none 0 0,.slice none 0 0,.int .i64 0]),8,96):=by kernel_rfl
theorem results_cell1 {fn:Func} {p:Tmp} {ty:TypeId} (h:fn.results = #[.cell p ty]) (tmps:Array Value) (P:Program) (w:World) :
    (results fn tmps).run P w = ((asAddr (tmps.getD p undef)).run P w).andThen fun a w₁=>(loadVar ty a).run P w₁:=by
  simp only [results,h];simp [Sem.run_bind,Result.andThen]
theorem results_tct {fn:Func} {p t u:Tmp} {ty:TypeId} (h:fn.results = #[.tmp t,.cell p ty,.tmp u]) (tmps:Array Value) (P:Program) (w:World) :
    (results fn tmps).run P w = ((asAddr (tmps.getD p undef)).run P w).andThen fun a w₁=>((loadVar ty a).run P w₁).andThen fun v w₂=>.ok (.tuple #[tmps.getD t undef,v,tmps.getD u undef]) w₂:=by
  simp only [results,h];simp [Sem.run_bind,Result.andThen]
theorem At.setCell {α:Type} {E:Enc α} {S:Nat->Prop} {w:World} {v:Value} {l:List α} (h:At E S w v l) {p:Addr} (hp:¬ S p.block) (u:Value):At E S (w.setCell p u) v l :=
  h.keep (by simp [World.setCell]) fun b hS _=>⟨Below.heap_setCell _ _ _ _ (fun e=>hp (e ▸ hS)),hS⟩
abbrev B8 (a b c d e:Int) (x y:Value) (f:Int):Obj:=.cells #[.int .i64 a,.int .i64 b,.int .i64 c,.int .i64 d,.int .i64 e,x,y,.int .i64 f] 58
abbrev BZ:Obj:=B8 0 0 0 0 0 (.slice none 0 0) (.slice none 0 0) 0
theorem eight_of {w:World} {A:Nat} {a b c d e f:Int} {x y:Value} (h:w.heap[A]? = some (B8 a b c d e x y f)) :
    (w.cell? ⟨A,0,none⟩ = some (.int .i64 a)/\w.cell? ⟨A,1,none⟩ = some (.int .i64 b)/\w.cell? ⟨A,2,none⟩ = some (.int .i64 c)/\w.cell? ⟨A,3,none⟩ = some (.int .i64 d)/\w.cell? ⟨A,4,none⟩ = some (.int .i64 e)/\w.cell? ⟨A,5,none⟩ = some x/\w.cell? ⟨A,6,none⟩ = some y/\w.cell? ⟨A,7,none⟩ = some (.int .i64 f))/\∀ j,w.frozen? ⟨A,j,none⟩ = false:=by
  refine ⟨⟨?_,?_,?_,?_,?_,?_,?_,?_⟩,fun j=>?_⟩ <;> simp [World.cell?,World.frozen?,h]
theorem set5 {w:World} {A:Nat} {a b c d e f:Int} {x y:Value} (h:w.heap[A]? = some (B8 a b c d e x y f)) (u:Value):(w.setCell ⟨A,5,none⟩ u).heap[A]? = some (B8 a b c d e u y f):=by
  rw [setCell_eq_setRow w A 5 _ _ _ u h,setRow_heap w A _ _ _ _ h];rfl
theorem own_one {w w7:World} {g k l s t nx:Int} {rp ep:Option Addr} {rn rc en ec:Nat} {rs:List (Int × ByteArray)} {es:List (ByteArray × Int × Int × Int)} {v7:Value}
    (hrow:Row ER w7 (w.heap.size + 2) 60 v7 ([] ++ rs)) (hg7:((w.alloc (B8 g k l s t (.slice rp rn rc) (.slice ep en ec) nx)).alloc BZ).grownBy w7 none)
    (hAW:((w.alloc (B8 g k l s t (.slice rp rn rc) (.slice ep en ec) nx)).alloc BZ).heap[w.heap.size]? = some (B8 g k l s t (.slice rp rn rc) (.slice ep en ec) nx)/\((w.alloc (B8 g k l s t (.slice rp rn rc) (.slice ep en ec) nx)).alloc BZ).heap[w.heap.size + 1]? = some BZ)
    (hB:Bw w ((w.alloc (B8 g k l s t (.slice rp rn rc) (.slice ep en ec) nx)).alloc BZ)) (hE:At EE (fun b=>b < w.heap.size) ((w.alloc (B8 g k l s t (.slice rp rn rc) (.slice ep en ec) nx)).alloc BZ) (.slice ep en ec) es) :
    ∃ pu cu, v7 = .slice pu rs.length cu ∧ Hid (w7.heap[w.heap.size]? = some (B8 g k l s t (.slice rp rn rc) (.slice ep en ec) nx) ∧ w7.heap[w.heap.size + 1]? = some BZ) ∧ Hid (Bw w w7) ∧
      Hid (At EE (fun b=>b < w.heap.size) (w7.setCell ⟨w.heap.size,5,none⟩ (.slice pu rs.length cu)) (.slice ep en ec) es)/\w.heap.size + 2<=w7.heap.size/\Hid (Row ER w7 (w.heap.size + 2) 60 (.slice pu rs.length cu) rs):=by
  rw [List.nil_append] at hrow;obtain ⟨pu,cu,rfl⟩:=hrow.slice;exact ⟨pu,cu,rfl,⟨(hg7.block _ (by simp;omega) (by simp)).trans hAW.1,(hg7.block _ (by simp) (by simp)).trans hAW.2⟩,hB.trans (below_none hg7 (by simp;omega)),
    (hE.grown hg7 (by simp)).setCell (by simp) _,by have:=hg7.size;simp at this;omega,hrow⟩
theorem own_two {w w7 w8:World} {g k l s t nx:Int} {rp ep:Option Addr} {rn rc en ec:Nat} {rs:List (Int × ByteArray)} {es:List (ByteArray × Int × Int × Int)} {u v8:Value}
    (hrow:Row EE w8 (w.heap.size + 2) 110 v8 ([] ++ es)) (hg8:(w7.setCell ⟨w.heap.size,5,none⟩ u).grownBy w8 none)
    (hH:w7.heap[w.heap.size]? = some (B8 g k l s t (.slice rp rn rc) (.slice ep en ec) nx)/\w7.heap[w.heap.size + 1]? = some BZ) (hB:Bw w w7) (hR:Row ER w7 (w.heap.size + 2) 60 u rs) (hs:w.heap.size + 2<=w7.heap.size) :
    ∃ pe ce, v8 = .slice pe es.length ce ∧ Hid (w8.heap[w.heap.size]? = some (B8 g k l s t u (.slice ep en ec) nx) ∧ w8.heap[w.heap.size + 1]? = some BZ) ∧ Hid (Bw w w8) ∧
      Hid (At ER (fun b=>w.heap.size + 2<=b) w8 u rs)/\Hid (At EE (fun b=>w.heap.size + 2<=b) w8 (.slice pe es.length ce) es)/\Hid ((w8.setCell ⟨w.heap.size,6,none⟩ (.slice pe es.length ce)).heap[w.heap.size + 1]? = some BZ):=by
  rw [List.nil_append] at hrow;obtain ⟨pe,ce,rfl⟩:=hrow.slice;have hsz:(w7.setCell ⟨w.heap.size,5,none⟩ u).heap.size = w7.heap.size:=by simp [World.setCell]
  have h1:w8.heap[w.heap.size + 1]? = some BZ:=(hg8.block _ (by omega) (by simp)).trans ((Below.heap_setCell _ _ _ _ (by simp)).trans hH.2);exact ⟨pe,ce,rfl,⟨(hg8.block _ (by omega) (by simp)).trans (set5 hH.1 _),h1⟩,(hB.setCell (p:=⟨w.heap.size,5,none⟩) (Nat.le_refl _) _).trans (below_none hg8 (by omega)),
    (hR.at.setCell (by simp) _).grown hg8 (by simp),hrow.at,(Below.heap_setCell _ _ _ _ (by simp)).trans h1⟩
theorem own_any {S:Nat->Prop} (x:Rw) (w:World) (h:Good S w x) :
    Calls Tryz.prog 144 #[VI x] w fun e w'=>∃ x':Rw,e = .returned (VI x')/\x'.i = x.i/\Good (fun b=>w.heap.size<=b) w' x'/\Bw w w':=by
  obtain ⟨i0,hi,hz0,hz1,hz2⟩:=info_parts infoR;obtain ⟨j0,hj,hy0,hy1,hy2⟩:=info_parts infoE;obtain ⟨hr,he,ho⟩:=h;have HO:Hid (okI x.i):=ho;obtain ⟨A,hA⟩:=qF w.heap.size;have hr0:At ER (fun b=>b < A) w (.slice x.rp x.rn x.rc) x.i.runs:=hr.imp fun b _ hb=>by omega
  have he0:At EE (fun b=>b < A) w (.slice x.ep x.en x.ec) x.i.ents:=he.imp fun b _ hb=>by omega
  obtain ⟨⟨g,k,l,s,t,rs,es,nx⟩,rp,rn,rc,ep,en,ec⟩:=x;simp only at HO hr0 he0 ⊢;subst hA;have HB:Hid (Bw w ((w.alloc (B8 g k l s t (.slice rp rn rc) (.slice ep en ec) nx)).alloc BZ)):=(qG _ _).alloc (by simp) _;have HAW:Hid (((w.alloc (B8 g k l s t (.slice rp rn rc) (.slice ep en ec) nx)).alloc BZ).heap[w.heap.size]? = some (B8 g k l s t (.slice rp rn rc) (.slice ep en ec) nx)/\((w.alloc (B8 g k l s t (.slice rp rn rc) (.slice ep en ec) nx)).alloc BZ).heap[w.heap.size + 1]? = some BZ):=by
    refine ⟨?_,?_⟩
    · rw [Below.heap_alloc _ _ _ (by simp)]
      exact heap_alloc_new _ _
    · have := heap_alloc_new (w.alloc (B8 g k l s t (.slice rp rn rc) (.slice ep en ec) nx)) BZ
      rwa [show (w.alloc (B8 g k l s t (.slice rp rn rc) (.slice ep en ec) nx)).heap.size = w.heap.size + 1 by simp] at this
  have HR:Hid (At ER (fun b=>b < w.heap.size) ((w.alloc (B8 g k l s t (.slice rp rn rc) (.slice ep en ec) nx)).alloc BZ) (.slice rp rn rc) rs):=hr0.up HB.out;have HE:Hid (At EE (fun b=>b < w.heap.size) ((w.alloc (B8 g k l s t (.slice rp rn rc) (.slice ep en ec) nx)).alloc BZ) (.slice ep en ec) es):=he0.up HB.out;clear hr he ho hr0 he0;go_enter Tryz.func144,Tryz.ntmps144
  go_wp2_with (first
    | (at_builtin
       refine wpList_row _ rfl _ _ 56 rfl ER (fun b=>b < w.heap.size) (w.heap.size + 2) 60 i0 (.agg #[.int .i64 0,.string ⟨#[]⟩]) 24 Tryz.underlying56 hi hz0 hz1 hz2 rfl _ [] rfl (Row.nil _ _ _ _) _ rs rfl HR.out (by have:=HO.out.2.1;simp only at this;unfold maxLen;simp;omega) (by have:=HO.out.2.1;simp only at this;simp;omega) (by simp) ?_;intro v7 w7 hrow7 hg7 hmv7;obtain ⟨pu,cu,rfl,HH7,HB7,HE8,hs7,HR7⟩:=own_one hrow7 hg7 HAW.out HB.out HE.out;clear hrow7 hg7 hmv7 HR HE HB HAW;obtain ⟨q0,q1,q2,q3,q4,q5,q6,q7⟩:=(eight_of HH7.out.1).1;have qf:=(eight_of HH7.out.1).2 5)
    | (at_builtin
       refine wpList_row _ rfl _ _ 38 rfl EE (fun b=>b < w.heap.size) (w.heap.size + 2) 110 j0 (.agg #[.string ⟨#[]⟩,.int .i64 0,.int .i64 0,.int .i64 0]) 40 Tryz.underlying38 hj hy0 hy1 hy2 rfl _ [] rfl (Row.nil _ _ _ _) _ es rfl HE8.out (by have:=HO.out.2.2;simp only at this;unfold maxLen;simp;omega) (by have:=HO.out.2.2;simp only at this;simp;omega) (by simp;omega) ?_;intro v8 w8 hrow8 hg8 hmv8;obtain ⟨pe,ce,rfl,HH8,HB8,HR8,HE9,HH9⟩:=own_two hrow8 hg8 HH7.out HB7.out HR7.out hs7;clear hrow8 hg8 hmv8 HR7 HE8 HB7 hs7 q0 q1 q2 q3 q4 q5 q6 q7 qf;obtain ⟨q0,q1,q2,q3,q4,q5,q6,q7⟩:=(eight_of HH8.out.1).1;have qf:=(eight_of HH8.out.1).2 6;obtain ⟨z0,z1,z2,z3,z4,z5,z6,z7⟩:=(eight_of HH8.out.2).1;have zf:=(eight_of HH8.out.2).2))
  (try simp only [Exit.inBlock,Exit.then])
  refine bodyPost_ret (v:=.agg #[.int .i64 g,.int .i64 k,.int .i64 l,.int .i64 s,.int .i64 t,.slice pu rs.length cu,.slice pe es.length ce,.int .i64 nx]) ?_ rfl ⟨⟨⟨g,k,l,s,t,rs,es,nx⟩,pu,rs.length,cu,pe,es.length,ce⟩,rfl,rfl,⟨?_,?_,HO.out⟩,?_⟩
  · rw [results_cell1 rfl]
    go_simp
  · refine At.imp (S := fun b => w.heap.size + 2 ≤ b) ?_ (fun b hb _ => by omega)
    repeat (refine At.setCell ?_ (by simp) _)
    exact HR8.out
  · refine At.imp (S := fun b => w.heap.size + 2 ≤ b) ?_ (fun b hb _ => by omega)
    repeat (refine At.setCell ?_ (by simp) _)
    exact HE9.out
  · repeat (refine Below.setCell ?_ (by simp) _)
    exact HB8.out
theorem made_flat (n:Nat):madeCells #[.int .i64 0,.int .i64 0,.int .i64 0,.int .i64 0,.int .i64 0,.slice none 0 0,.slice none 0 0,.int .i64 0] (n * 8) = (EI.flat (List.replicate n zeroR)).toArray:=by
 apply Array.ext
 ·rw [size_madeCells];simp [EI.flat_length];rfl
 ·intro j h1 h2;rw [size_madeCells] at h1;have hk:j / 8 < n:=by omega
  have hr:(List.replicate n zeroR)[j / 8]? = some zeroR:=by simp [hk]
  have hm:j % 8 < 8:=Nat.mod_lt _ (by omega);have key:∀ u,(EI.cells zeroR)[j % 8]? = some u->(EI.flat (List.replicate n zeroR)).toArray[j] = u:=fun u hu=>by
   have:=EI.flat_at _ _ _ hr (j % 8) u hu;rw [show j / 8 * EI.sz + j % 8 = j from by show j / 8 * 8 + j % 8 = j;omega] at this;rw [← Option.some_inj,← this];simp
  simp only [madeCells,Array.getElem_map,Array.getElem_range];generalize j % 8 = q at hm key ⊢
  match q,hm with
  | 0,_=>exact (key _ rfl).symm
  | 1,_=>exact (key _ rfl).symm
  | 2,_=>exact (key _ rfl).symm
  | 3,_=>exact (key _ rfl).symm
  | 4,_=>exact (key _ rfl).symm
  | 5,_=>exact (key _ rfl).symm
  | 6,_=>exact (key _ rfl).symm
  | 7,_=>exact (key _ rfl).symm
def Full (w:World) (g:Nat) (R:List Rw):Prop:=w.heap[g]? = some (.cells (EI.flat R).toArray 58 (0,0))
theorem wpList_make_tab {P:Program} (w:World) {ops:Array Oper} {rest:List Oper} {o:Oper} {a:Act} {Q:Exit->Act->World->Prop}
  (hg:o.guard = none) (l c:Operand) (t:TypeId) (hop:o.op = Op.makeSlice t l c)
  (i:TypeInfo) (h1:P.underlying t = some (.slice 58)) (h2:P.info? 58 = some i) (h3:i.zero = some (.agg #[.int .i64 0,.int .i64 0,.int .i64 0,.int .i64 0,.int .i64 0,.slice none 0 0,.slice none 0 0,.int .i64 0])) (h4:i.size = 8) (h5:i.bytes = 96)
  (L C:Int) (n:Nat) (hl:a.eval l = .int .i64 L) (hc:a.eval c = .int .i64 C) (hL:L = (n:Int)) (hC:C = (n:Int)) (hn:n<=25)
  (hK:∀ w',Full w' w.heap.size (List.replicate n zeroR)->w.grownBy w' none->wpList P ops Q rest (a.put o.dst (.slice (some ⟨w.heap.size,0,none⟩) n n)) w') :
  wpList P ops Q (o :: rest) a w:=by
 refine wpList_plain hg fun K hK'=>?_
 have hr:=run_make (P:=P) w t _ i _ h1 h2 h3 .i64 .i64 n n (by omega) (Int.le_refl _) (by rw [h5];omega) (by omega);simp only [Int.toNat_natCast,h4] at hr;rw [show (Value.agg #[Value.int .i64 0,.int .i64 0,.int .i64 0,.int .i64 0,.int .i64 0,.slice none 0 0,.slice none 0 0,.int .i64 0]).cells = #[Value.int .i64 0,.int .i64 0,.int .i64 0,.int .i64 0,.int .i64 0,.slice none 0 0,.slice none 0 0,.int .i64 0] from rfl,made_flat] at hr;subst hL;subst hC;unfold Oper.wp;simp [execOp,hop,hl,hc,hr,Result.andThen];exact hK' _ _ (hK _ (heap_alloc_new _ _) (World.grownBy_alloc _ _ _))
theorem wpList_copy_tab {P:Program} (w:World) {ops:Array Oper} {rest:List Oper} {o:Oper} {a:Act} {Q:Exit->Act->World->Prop} (hgd:o.guard = none) (d s:Operand) (t:TypeId)
  (ho:o.op = .call { callee:=.builtin .copy,args:=#[d,s],argTypes:=#[t,t] })
  (i:TypeInfo) (h1:P.underlying t = some (.slice 58)) (h2:P.info? 58 = some i) (h4:i.size = 8)
  (g n c:Nat) (hd:a.eval d = .slice (some ⟨g,0,none⟩) n c) (v:Value) (hs:a.eval s = v) (S:Nat->Prop) (L R:List Rw) (hL:At EI S w v L) (hR:Full w g R) (hlen:R.length = n) (hle:L.length<=n)
  (h:∀ w' m,Full w' g (L ++ R.drop L.length)->w.grownBy w' (some g)->wpList P ops Q rest (a.put o.dst (goInt m)) w'):wpList P ops Q (o :: rest) a w:=by
 refine wpList_plain hgd fun K hK=>?_
 have hsrc:Src P i.size t v L.length (EI.flat L) w:=by rw [h4];exact hL.src h1
 have hfl:=EI.flat_length L;have hfr:=EI.flat_length R;have hle8:L.length * 8<=R.length * 8:=Nat.mul_le_mul_right _ (by omega);have e8:EI.sz = 8:=rfl;rw [e8] at hfl hfr;have hst:=run_storeCells_at P g 0 58 (EI.flat L) 0 (EI.flat R).toArray w hR (by simp;omega) (EI.flat_one L);simp only [Nat.zero_add,List.take_zero,List.nil_append] at hst;have hmin:Nat.min L.length n = L.length:=Nat.min_eq_left hle;have hrun:(Builtin.copy_ #[t,t] o.type #[.slice (some ⟨g,0,none⟩) n c,v]).run P w = .ok (goInt L.length) (w.setRow g (EI.flat L ++ (EI.flat R).drop (EI.flat L).length).toArray):=by
  simp [Builtin.copy_,run_underlying h1,hsrc.len,sizeOf,typeInfo,h2,hmin,hsrc.cells,hst]
 have hfull:Full (w.setRow g (EI.flat L ++ (EI.flat R).drop (EI.flat L).length).toArray) g (L ++ R.drop L.length):=by
  unfold Full;rw [setRow_heap w g _ _ _ _ hR,EI.flat_append]
  congr 4
  have:∀ (R:List Rw) (k:Nat),(EI.flat R).drop (k * 8) = EI.flat (R.drop k):=by
   intro R
   induction R with
   | nil=>intro k;simp [Enc.flat]
   | cons y l ih =>
    intro k
    cases k with
    | zero=>simp
    | succ k =>
     have e:EI.flat (y :: l) = EI.cells y ++ EI.flat l:=by simp [Enc.flat]
     rw [e,List.drop_append,List.drop_of_length_le (by rw [EI.len];show 8<=_;omega),List.nil_append,EI.len,show (k + 1) * 8 - EI.sz = k * 8 from by show (k + 1) * 8 - 8 = _;omega,ih];rfl
  rw [hfl,this]
 unfold Oper.wp;simp [execOp,ho,resolve,invoke,builtin,hd,hs,hrun,Result.andThen];exact hK _ _ (h _ _ hfull ⟨rfl,rfl,rfl,by simp [World.setRow],fun k _ hk=>setRow_other w g k _ (fun e=>hk (by simp [e]))⟩)
theorem Full.there {w:World} {g:Nat} {R:List Rw} (h:Full w g R) {i:Nat} (hi:i < R.length):w.there g (i * 8) 8:=fun j hj=>by
 have hl:=EI.flat_length R;have e8:EI.sz = 8:=rfl;rw [e8] at hl;unfold Full at h;have hlt:i * 8 + j < (EI.flat R).length:=by omega
 simp [World.cell?,World.frozen?,h,hlt]
theorem Full.at {w:World} {g:Nat} {R:List Rw} (h:Full w g R) {i:Nat} {x:Rw} (hx:R[i]? = some x):eight w g (i * 8) x:=by
 unfold Full at h;have c:∀ k u,(EI.cells x)[k]? = some u->w.cell? ⟨g,i * 8 + k,none⟩ = some u:=fun k u hu=>by
  have:=EI.flat_at R i x hx k u hu;rw [show i * EI.sz + k = i * 8 + k from rfl] at this;simp [World.cell?,h,this]
 exact ⟨c 0 _ rfl,c 1 _ rfl,c 2 _ rfl,c 3 _ rfl,c 4 _ rfl,c 5 _ rfl,c 6 _ rfl,c 7 _ rfl⟩
theorem setCells_row {g:Nat} {t:TypeId}:∀ (vs:List Value) (o:Nat) (cur:Array Value) (w:World),w.heap[g]? = some (.cells cur t (0,0))->o + vs.length<=cur.size ->
  (w.setCells g o vs).heap[g]? = some (.cells (cur.toList.take o ++ vs ++ cur.toList.drop (o + vs.length)).toArray t (0,0))
 | [],o,cur,w,h,hl=>by simp [World.setCells,h]
 | v :: vs, o, cur, w, h, hl => by
  rw [World.setCells];simp only [List.length_cons] at hl;have h1:(w.setCell ⟨g,o,none⟩ v).heap[g]? = some (.cells (cur.setIfInBounds o v) t (0,0)):=by
   rw [setCell_eq_setRow w g o cur t _ v h,setRow_heap w g cur _ t _ h]
  rw [setCells_row vs (o + 1) _ _ h1 (by simp;omega)]
  congr 3
  have e:=list_seg_step cur.toList o v vs (by simp;omega);simpa [Array.toList_setIfInBounds,Nat.add_assoc,Nat.add_comm,Nat.add_left_comm] using e
theorem Full.set {w:World} {g:Nat} {R:List Rw} (h:Full w g R) {i:Nat} (hi:i < R.length) (x:Rw):Full (w.setCells g (i * 8) (EI.cells x)) g (R.set i x):=by
 have hl:=EI.flat_length R;have e8:EI.sz = 8:=rfl;rw [e8] at hl;unfold Full at h ⊢;have hcl:(EI.cells x).length = 8:=EI.len x;rw [setCells_row (EI.cells x) (i * 8) _ w h (by simp;omega),hcl];have:=EI.flat_set R i x hi;rw [e8] at this;simp only [this]
end Go.Proofs.YtneojimodomohaaGreat
