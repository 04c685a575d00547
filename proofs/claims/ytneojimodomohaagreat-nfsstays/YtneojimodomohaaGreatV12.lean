/- Sp3, SAttr, Put, Sp4, as one. -/
import Derived.Test.YtneojimodomohaaGreatV11
set_option maxHeartbeats 8000000
set_option maxRecDepth 100000
namespace Go.Proofs.YtneojimodomohaaGreat
section
open Go.ChangeShapes Go.WideShapes Go.ChangeAt Go.RowKit Go.Deep It
namespace Sp
def dirErr (L:List Ino) (a b:Int):Int:=if findErr L a b = 0 then (if (findI L a b).kind = 2 then 0 else 404) else findErr L a b
def dirEnts (L:List Ino) (a b:Int):List Ent:=if dirErr L a b = 0 then (findI L a b).ents else []
def dirNext (L:List Ino) (a b:Int):Int:=if dirErr L a b = 0 then (findI L a b).next else 0
theorem dirErr_find {L:List Ino} {a b e:Int} (h:findErr L a b = e) (he:e≠0):dirErr L a b = e/\dirEnts L a b = []/\dirNext L a b = 0:=by
 have:dirErr L a b = e:=by unfold dirErr;rw [if_neg (by rw [h];exact he),h]
 exact ⟨this,by unfold dirEnts;rw [if_neg (by rw [this];exact he)],by unfold dirNext;rw [if_neg (by rw [this];exact he)]⟩
theorem dirErr_file {L:List Ino} {a b:Int} (h:findErr L a b = 0) (hk:(findI L a b).kind≠2):dirErr L a b = 404/\dirEnts L a b = []/\dirNext L a b = 0:=by
 have:dirErr L a b = 404:=by unfold dirErr;rw [if_pos h,if_neg hk]
 exact ⟨this,by unfold dirEnts;rw [if_neg (by rw [this];decide)],by unfold dirNext;rw [if_neg (by rw [this];decide)]⟩
theorem dirErr_hit {L:List Ino} {a b:Int} (h:findErr L a b = 0) (hk:(findI L a b).kind = 2):dirErr L a b = 0/\dirEnts L a b = (findI L a b).ents/\dirNext L a b = (findI L a b).next:=by
 have:dirErr L a b = 0:=by unfold dirErr;rw [if_pos h,if_pos hk]
 exact ⟨this,by unfold dirEnts;rw [if_pos this],by unfold dirNext;rw [if_pos this]⟩
theorem okN_find {L:List Rw} (h:okN L) (a b:Int):∀ e∈(findI (pl L) a b).ents,e.1.size<=maxLen:=by
 unfold findI;split
 ·cases hx:(pl L)[a.toNat]? with
  | none=>intro e he;simp [zeroI] at he
  | some x =>
   rw [List.getElem?_map] at hx
   cases hy:L[a.toNat]? with
   | none=>rw [hy] at hx;cases hx
   | some y =>
    rw [hy] at hx;obtain rfl:y.i = x:=by simpa using hx
    exact h y (List.mem_of_getElem? hy)
 ·intro e he;simp [zeroI] at he
theorem okN_dir {L:List Rw} (h:okN L) (a b:Int):∀ e∈dirEnts (pl L) a b,e.1.size<=maxLen:=by
 unfold dirEnts;split
 ·exact okN_find h a b
 ·intro e he
  cases he
noncomputable def lookErr (L:List Ino) (a b:Int) (s:ByteArray):Int:=if dirErr L a b = 0 then Fo.findErr (dirEnts L a b) (dirNext L a b) s else dirErr L a b
noncomputable def lookH (L:List Ino) (a b:Int) (s:ByteArray):Int × Int:=if dirErr L a b = 0 then (Fo.found (dirEnts L a b) (dirNext L a b) s).2.2 else (0,0)
noncomputable def nameErr (L:List Ino) (a b:Int) (s:ByteArray):Int:=if lookErr L a b s = 0 then 403 else if lookErr L a b s = 402 then 0 else lookErr L a b s
end Sp
theorem set_two {α:Type} {E:Enc α} {B C D:Nat} {w:World} {v:Value} {l:List α} (h:At E (fun b=>B<=b) w v l) (hC:C < B) (hD:D < B) (j k:Nat) (y z:Value):AtW E ((w.setCell ⟨C,j,none⟩ y).setCell ⟨D,k,none⟩ z) v l:=by
 refine At.wide (S:=fun b=>B<=b) ?_;refine At.setCell (At.setCell h ?_ _) ?_ _
 ·simp;omega
 ·simp;omega
theorem two_ofD {w:World} {B:Nat} {v:Value} {n:Int} (h:w.heap[B]? = some (.cells #[v,.int .i64 n] 142)):(w.cell? ⟨B,0,none⟩ = some v/\w.cell? ⟨B,1,none⟩ = some (.int .i64 n))/\∀ j,w.frozen? ⟨B,j,none⟩ = false:=by
 refine ⟨⟨?_,?_⟩,fun j=>?_⟩ <;> simp only [World.cell?,World.frozen?,h] <;> rfl
theorem folderOf_any {S:Nat->Prop} (v:Value) (L:List Rw) (a b:Int) (w:World) (hv:TabAt S w v L) :
  Calls Tryz.prog 183 #[v,.agg #[.int .i64 a,.int .i64 b]] w fun e w'=>∃ u,e = .returned (.tuple #[VD u (Sp.dirNext (pl L) a b),.int .i64 (Sp.dirErr (pl L) a b)])/\AtW EE w' u (Sp.dirEnts (pl L) a b)/\Bw w w':=by
 obtain ⟨W,hW⟩:=qF ((w.alloc (BH a b)).alloc BZD);have HB0:Hid (Bw w W):=by show Bw w W;rw [hW];exact (qG _ _).alloc (by simp) _
 have HA0:Hid (W.heap[w.heap.size]? = some (BH a b)/\W.heap[w.heap.size + 1]? = some BZD):=by
  rw [hW];refine ⟨(Below.heap_alloc _ _ _ (by simp)).trans (heap_alloc_new _ _),?_⟩;have:=heap_alloc_new (w.alloc (BH a b)) BZD
  rwa [show (w.alloc (BH a b)).heap.size = w.heap.size + 1 by simp] at this
 have hws:w.heap.size + 1 < W.heap.size:=by rw [hW];simp
 have HV:Hid _:=hv.up HB0.out;obtain ⟨⟨a0,a1⟩,_⟩:=two_of HA0.out.1;obtain ⟨ao,cap,rfl,_,_⟩:=hv.open;clear hv;obtain ⟨fe,hfe⟩:=qE (findErr (pl L) a b);have HFE:Hid (findErr (pl L) a b = fe):=hfe
 by_cases hz:fe = 0
 ·subst hz
  by_cases hk:(findI (pl L) a b).kind = 2
  ·obtain ⟨d0,d1,d2⟩:=Sp.dirErr_hit hfe hk;have HK:Hid ((findI (pl L) a b).kind = 2):=hk;rw [d0,d1,d2];clear d0 d1 d2 hk hfe;go_enter Tryz.func183,Tryz.ntmps183;go_wp2_with fail;rw [← hW];refine (findOwn_any _ L a b _ HV.out).mono ?_;rintro e w1 ⟨x,rfl,hxi,hxg,hb1⟩;rw [HFE.out];have HXI:Hid (x.i = findI (pl L) a b):=hxi;have HK2:Hid (x.i.kind = 2):=by show x.i.kind = 2;rw [hxi];exact HK.out
   have HB1:=qJ HB0 hb1;have HA1:Hid (w1.heap[w.heap.size + 1]? = some BZD):=(hb1.block _ (by omega)).trans HA0.out.2;have hws1:w.heap.size + 1 < w1.heap.size:=by have:=hb1.size;omega
   obtain ⟨⟨q0,q1,q2,q3,q4,q5,q6,q7⟩,-⟩:=eight_of (heap_alloc_new w1 (BIx x));have HE:Hid (At EE (fun b=>W.heap.size<=b) w1 (.slice x.ep x.en x.ec) x.i.ents):=hxg.2.1;clear hxg hb1 hW a0 a1 HV HA0 hxi HK;go_wp2_with fail;refine (isDir_any x _).mono ?_;rintro e w2 ⟨rfl,hw2⟩;rw [HK2.out];have hb2:Bw w1 w2:=by rw [hw2];exact (qG _ _).alloc (by simp) _
   have hb2':Below (w1.alloc (BIx x)).heap.size (w1.alloc (BIx x)) w2:=by rw [hw2];exact qG _ _
   obtain ⟨r0,r1,r2,r3,r4,r5,r6,r7⟩:eight w2 w1.heap.size 0 x:=eight_block (b:=w1.heap.size) (o:=0) ⟨q0,q1,q2,q3,q4,q5,q6,q7⟩ hb2' (by simp);simp only [Nat.zero_add] at r1 r2 r3 r4 r5 r6 r7;have HB2:=qJ HB1 hb2;have HA2:Hid (w2.heap[w.heap.size + 1]? = some BZD):=(hb2.block _ (by omega)).trans HA1.out;have HE2:Hid (At EE (fun b=>W.heap.size<=b) w2 (.slice x.ep x.en x.ec) x.i.ents):=HE.out.up hb2;have hws2:w.heap.size + 1 < w2.heap.size:=by have:=hb2.size;omega
   clear q0 q1 q2 q3 q4 q5 q6 q7 hw2 hb2 hb2' HE HA1 HB1;go_wp2_with fail;refine (dirOf_any x _).mono ?_;rintro e w3 ⟨rfl,hb3⟩;have HB3:=qJ HB2 hb3;have HA3:Hid _:=(hb3.block _ hws2).trans HA2.out;have HE3:Hid _:=HE2.out.up hb3;obtain ⟨⟨z0,z1⟩,zf⟩:=two_ofD HA3.out;clear r0 r1 r2 r3 r4 r5 r6 r7 hb3 HE2 HA2 HB2;go_wp2
   (try simp only [Exit.inBlock,Exit.then])
   refine bodyPost_ret (v:=.tuple #[VD (.slice x.ep x.en x.ec) x.i.next,.int .i64 0]) ?_ rfl ⟨_,by rw [← HXI.out],?_,?_⟩
   ·rw [results_cell_tmp rfl]
    go_simp
   ·rw [← HXI.out];exact set_two HE3.out (by omega) (by omega) _ _ _ _
   ·repeat (refine Below.setCell ?_ (by simp) _)
    exact HB3.out
  ·obtain ⟨d0,d1,d2⟩:=Sp.dirErr_file hfe hk;have HK:Hid _:=hk;rw [d0,d1,d2];clear d0 d1 d2 hk hfe;go_enter Tryz.func183,Tryz.ntmps183;go_wp2_with fail;rw [← hW];refine (findOwn_any _ L a b _ HV.out).mono ?_;rintro e w1 ⟨x,rfl,hxi,hxg,hb1⟩;rw [HFE.out];have HK2:Hid ((x.i.kind == 2) = false):=by show (x.i.kind == 2) = false;rw [hxi];exact beq_eq_false_iff_ne.2 HK.out
   have HB1:=qJ HB0 hb1;have HA1:Hid _:=(hb1.block _ (by omega)).trans HA0.out.2;have hws1:w.heap.size + 1 < w1.heap.size:=by have:=hb1.size;omega
   obtain ⟨⟨q0,q1,q2,q3,q4,q5,q6,q7⟩,-⟩:=eight_of (heap_alloc_new w1 (BIx x));clear hxg hb1 hW a0 a1 HV HA0 hxi HK;go_wp2_with fail;refine (isDir_any x _).mono ?_;rintro e w2 ⟨rfl,hw2⟩;rw [HK2.out];have hb2:Bw w1 w2:=by rw [hw2];exact (qG _ _).alloc (by simp) _
   have HB3:=qJ HB1 hb2;have HA2:Hid _:=(hb2.block _ (by omega)).trans HA1.out;obtain ⟨⟨z0,z1⟩,zf⟩:=two_ofD HA2.out;clear q0 q1 q2 q3 q4 q5 q6 q7 hw2 hb2 HA1 HB1;go_wp2
   (try simp only [Exit.inBlock,Exit.then])
   refine bodyPost_ret (v:=.tuple #[VD (.slice none 0 0) 0,.int .i64 404]) ?_ rfl ⟨_,rfl,At.nil,?_⟩
   ·rw [results_cell_tmp rfl]
    go_simp
   ·repeat (refine Below.setCell ?_ (by simp) _)
    exact HB3.out
 ·obtain ⟨d0,d1,d2⟩:=Sp.dirErr_find hfe hz;rw [d0,d1,d2];have hz':(fe != 0) = true:=by simpa using hz
  clear d0 d1 d2 hfe hz;go_enter Tryz.func183,Tryz.ntmps183;go_wp2_with fail;rw [← hW];refine (findOwn_any _ L a b _ HV.out).mono ?_;rintro e w1 ⟨x,rfl,hxi,hxg,hb1⟩;rw [HFE.out];have HB1:=qJ HB0 hb1;have HA1:Hid _:=(hb1.block _ (by omega)).trans HA0.out.2;have hws1:w.heap.size + 1 < w1.heap.size:=by have:=hb1.size;omega
  obtain ⟨⟨z0,z1⟩,zf⟩:=two_ofD HA1.out;clear hxg hb1 hW a0 a1 HV HA0 hxi;go_wp2
  (try simp only [Exit.inBlock,Exit.then])
  refine bodyPost_ret (v:=.tuple #[VD (.slice none 0 0) 0,.int .i64 fe]) ?_ rfl ⟨_,rfl,At.nil,?_⟩
  ·rw [results_cell_tmp rfl]
   go_simp
  ·have hs1:=HB1.out.size
   repeat (first | exact HB1.out | refine Below.setCell ?_ (by simp) _ | refine Below.alloc ?_ (by simp;omega) _)
theorem sfind_any {S:Nat->Prop} (v:Value) (L:List Rw) (a b:Int) (s:ByteArray) (w:World) (hv:TabAt S w v L) (hok:Sp.okN L) (hs:s.size<=maxLen) :
  Calls Tryz.prog 142 #[v,.agg #[.int .i64 a,.int .i64 b],.string s] w fun e w'=>e = .returned (.tuple #[.agg #[.int .i64 (Sp.lookH (pl L) a b s).1,.int .i64 (Sp.lookH (pl L) a b s).2],.int .i64 (Sp.lookErr (pl L) a b s)])/\Bw w w':=by
 obtain ⟨W,hW⟩:=qF ((w.alloc (BH a b)).alloc (BH 0 0));have HB0:Hid (Bw w W):=by show Bw w W;rw [hW];exact (qG _ _).alloc (by simp) _
 have HA0:Hid (W.heap[w.heap.size]? = some (BH a b)/\W.heap[w.heap.size + 1]? = some (BH 0 0)):=by
  rw [hW];refine ⟨(Below.heap_alloc _ _ _ (by simp)).trans (heap_alloc_new _ _),?_⟩;have:=heap_alloc_new (w.alloc (BH a b)) (BH 0 0)
  rwa [show (w.alloc (BH a b)).heap.size = w.heap.size + 1 by simp] at this
 have hws:w.heap.size + 1 < W.heap.size:=by rw [hW];simp
 have HV:Hid _:=hv.up HB0.out;obtain ⟨⟨a0,a1⟩,_⟩:=two_of HA0.out.1;obtain ⟨ao,cap,rfl,_,_⟩:=hv.open;have HOK:Hid _:=Sp.okN_dir hok a b;have HSM:Hid _:=hs;clear hv hok hs;obtain ⟨de,hde⟩:=qE (Sp.dirErr (pl L) a b);have HDE:Hid _:=hde
 by_cases hz:de = 0
 ·subst hz;obtain ⟨es,hes⟩:=qE (Sp.dirEnts (pl L) a b);obtain ⟨nx,hnx⟩:=qE (Sp.dirNext (pl L) a b);have HES:Hid (Sp.dirEnts (pl L) a b = es/\Sp.dirNext (pl L) a b = nx):=⟨hes,hnx⟩;rw [hes] at HOK;obtain ⟨xx,hxx⟩:=qE (Fo.found es nx s);obtain ⟨fe,hfe⟩:=qE (Fo.findErr es nx s);have HF:Hid (Fo.found es nx s = xx/\Fo.findErr es nx s = fe):=⟨hxx,hfe⟩;rw [show Sp.lookErr (pl L) a b s = fe by unfold Sp.lookErr;rw [if_pos hde,hes,hnx,hfe],show Sp.lookH (pl L) a b s = xx.2.2 by unfold Sp.lookH;rw [if_pos hde,hes,hnx,hxx]];clear hes hnx hxx hfe hde;go_enter Tryz.func142,Tryz.ntmps142;go_wp2_with fail;rw [← hW];refine (folderOf_any _ L a b _ HV.out).mono ?_;rintro e w1 ⟨u,rfl,hu,hb1⟩;rw [HDE.out,HES.out.2];rw [HES.out.1] at hu;obtain ⟨uo,uc,rfl,_,_⟩:=hu.open;generalize es.length = un at hu ⊢;have HB1:=qJ HB0 hb1;have HA1:Hid _:=(hb1.block _ (by omega)).trans HA0.out.2;have hws1:w.heap.size + 1 < w1.heap.size:=by have:=hb1.size;omega
  have HB2:Hid (Bw w1 (w1.alloc (BD (.slice uo un uc) nx))):=qG _ _;have HU:Hid _:=hu.up HB2.out;obtain ⟨e0,e1⟩:=box_cells w1 (.slice uo un uc) nx;clear hb1 hW a0 a1 HV HA0 hu;go_wp2_with fail;refine (ffind_any _ es nx s _ HU.out HOK.out HSM.out).mono ?_;rintro e w2 ⟨rfl,hb2⟩;rw [HF.out.1,HF.out.2];have HB3:Hid _:=(HB1.out.trans (HB2.out.mono HB1.out.size)).trans (hb2.mono (by simp;omega));have HA2:Hid _:=(hb2.block _ (by simp;omega)).trans ((HB2.out.block _ (by omega)).trans HA1.out);have hws2:w.heap.size + 1 < w2.heap.size:=by have:=hb2.size;simp at this;omega
  obtain ⟨⟨z0,z1⟩,zf⟩:=two_of HA2.out;obtain ⟨⟨y0,y1,y2,y3⟩,-⟩:=four_of (heap_alloc_new w2 (BE xx));clear hb2 e0 e1 HU;go_wp2
  (try simp only [Exit.inBlock,Exit.then])
  refine bodyPost_ret (v:=.tuple #[.agg #[.int .i64 xx.2.2.1,.int .i64 xx.2.2.2],.int .i64 fe]) ?_ rfl ⟨rfl,?_⟩
  ·rw [results_cell_tmp rfl]
   go_simp
  ·have hs1:=HB3.out.size
   repeat (first | exact HB3.out | refine Below.setCell ?_ (by simp) _ | refine Below.alloc ?_ (by simp;omega) _)
 ·rw [show Sp.lookErr (pl L) a b s = de by unfold Sp.lookErr;rw [if_neg (by rw [hde];exact hz),hde],show Sp.lookH (pl L) a b s = (0,0) by unfold Sp.lookH;rw [if_neg (by rw [hde];exact hz)]];have hz':(de != 0) = true:=by simpa using hz
  clear hz hde;go_enter Tryz.func142,Tryz.ntmps142;go_wp2_with fail;rw [← hW];refine (folderOf_any _ L a b _ HV.out).mono ?_;rintro e w1 ⟨u,rfl,hu,hb1⟩;rw [HDE.out];obtain ⟨nx,hnx⟩:=qE (Sp.dirNext (pl L) a b);rw [hnx];obtain ⟨uo,uc,rfl,_,_⟩:=hu.open;generalize (Sp.dirEnts (pl L) a b).length = un;have HB1:=qJ HB0 hb1;have HA1:Hid _:=(hb1.block _ (by omega)).trans HA0.out.2;have hws1:w.heap.size + 1 < w1.heap.size:=by have:=hb1.size;omega
  obtain ⟨⟨z0,z1⟩,zf⟩:=two_of HA1.out;clear hb1 hW a0 a1 HV HA0 hu hnx;go_wp2
  (try simp only [Exit.inBlock,Exit.then])
  refine bodyPost_ret (v:=.tuple #[.agg #[.int .i64 0,.int .i64 0],.int .i64 de]) ?_ rfl ⟨rfl,?_⟩
  ·rw [results_cell_tmp rfl]
   go_simp
  ·have hs1:=HB1.out.size
   repeat (first | exact HB1.out | refine Below.setCell ?_ (by simp) _ | refine Below.alloc ?_ (by simp;omega) _)
end
section
open Go.ChangeShapes Go.WideShapes Go.ChangeAt Go.RowKit Go.Deep
def At.linkErr (k l s t n st:Int):Int :=
 if At.right k l s t then
  if (n = 1∨n = -1)/\(t<=st/\st<=1099511627776) then
   if k = 1 then if 64 < l + n then 5 else if l + n < 0 then 6 else 0
   else 7
  else 1
 else 70
def At.linkOut (k l s t n st:Int):Value:=if At.linkErr k l s t n st = 0 then VA k (l + n) s st else VA 0 0 0 0
theorem alinkErr_any (k l s t n st : Int) (w : World) : Calls Tryz.prog 207 #[VA k l s t, .int .i64 n, .int .i64 st] w fun e w' => e = .returned (.int .i64 (At.linkErr k l s t n st)) ∧ w' = (w.alloc (BA k l s t)).alloc (BA k l s t) := by
 obtain ⟨y,hy⟩:=qE (At.linkErr k l s t n st);have HY:Hid _:=hy;rw [hy];clear hy
 by_cases hr:At.right k l s t = true
 ·have HR : Hid _ := hr;have HP:Hid _:=At.right_iff.1 hr
  by_cases hn:n = 1∨n = -1
  ·by_cases hw:t<=st/\st<=1099511627776
   ·have HW:Hid _:=hw
    by_cases hk:k = 1
    ·have hlb:0<=l/\l<=64:=by have:=HP.out;unfold At.rightP at this;omega
     by_cases h5:64 < l + n
     ·have H:Hid (y = 5):=by show y = 5;rw [← HY.out];unfold At.linkErr;rw [if_pos hr,if_pos ⟨hn,hw⟩,if_pos hk,if_pos h5]
      clear hr hw HP;subst hk;obtain rfl:n = 1:=by omega
      all_goals
       go_enter Tryz.func207,Tryz.ntmps207;go_wp2_with fail;refine (acheck_yes 1 l s t _ HR.out).mono ?_;rintro e w1 ⟨rfl,rfl⟩;go_wp2_with fail;refine (awithin_yes _ _ _ _ HW.out).mono ?_;rintro e w1 ⟨rfl,rfl⟩;go_wp2;go_ret;rw [H.out];exact ⟨rfl,rfl⟩
     ·by_cases h6:l + n < 0
      ·have H:Hid (y = 6):=by show y = 6;rw [← HY.out];unfold At.linkErr;rw [if_pos hr,if_pos ⟨hn,hw⟩,if_pos hk,if_neg h5,if_pos h6]
       clear hr hw HP;subst hk;obtain rfl:n = -1:=by omega
       all_goals
        go_enter Tryz.func207,Tryz.ntmps207;go_wp2_with fail;refine (acheck_yes 1 l s t _ HR.out).mono ?_;rintro e w1 ⟨rfl,rfl⟩;go_wp2_with fail;refine (awithin_yes _ _ _ _ HW.out).mono ?_;rintro e w1 ⟨rfl,rfl⟩;go_wp2;go_ret;rw [H.out];exact ⟨rfl,rfl⟩
      ·have H:Hid (y = 0):=by show y = 0;rw [← HY.out];unfold At.linkErr;rw [if_pos hr,if_pos ⟨hn,hw⟩,if_pos hk,if_neg h5,if_neg h6]
       clear hr hw HP;subst hk;rcases hn with rfl | rfl
       all_goals
        go_enter Tryz.func207,Tryz.ntmps207;go_wp2_with fail;refine (acheck_yes 1 l s t _ HR.out).mono ?_;rintro e w1 ⟨rfl,rfl⟩;go_wp2_with fail;refine (awithin_yes _ _ _ _ HW.out).mono ?_;rintro e w1 ⟨rfl,rfl⟩;go_wp2;go_ret;rw [H.out];exact ⟨rfl,rfl⟩
    ·have H:Hid (y = 7):=by show y = 7;rw [← HY.out];unfold At.linkErr;rw [if_pos hr,if_pos ⟨hn,hw⟩,if_neg hk]
     clear hr hw HP;rcases hn with rfl | rfl
     all_goals
      go_enter Tryz.func207,Tryz.ntmps207;go_wp2_with fail;refine (acheck_yes k l s t _ HR.out).mono ?_;rintro e w1 ⟨rfl,rfl⟩;go_wp2_with fail;refine (awithin_yes _ _ _ _ HW.out).mono ?_;rintro e w1 ⟨rfl,rfl⟩;go_wp2;go_ret;rw [H.out];exact ⟨rfl,rfl⟩
   ·have HW:Hid _:=hw;have H:Hid (y = 1):=by
     show y = 1;rw [← HY.out];unfold At.linkErr;rw [if_pos hr,if_neg (fun h=>hw h.2)]
    clear hr hw HP;rcases hn with rfl | rfl
    all_goals
     go_enter Tryz.func207,Tryz.ntmps207;go_wp2_with fail;refine (acheck_yes k l s t _ HR.out).mono ?_;rintro e w1 ⟨rfl,rfl⟩;go_wp2_with fail;refine (awithin_no _ _ _ _ HW.out).mono ?_;rintro e w1 ⟨rfl,rfl⟩;go_wp2;go_ret;rw [H.out];exact ⟨rfl,rfl⟩
  ·have H:Hid (y = 1):=by
    show y = 1;rw [← HY.out];unfold At.linkErr;rw [if_pos hr,if_neg (fun h=>hn h.1)]
   have h1:(n != 1) = true:=by simpa using fun h=>hn (.inl h)
   have h2:(n != -1) = true:=by simpa using fun h=>hn (.inr h)
   clear hr hn HP;go_enter Tryz.func207,Tryz.ntmps207;go_wp2_with fail;refine (acheck_yes k l s t _ HR.out).mono ?_;rintro e w1 ⟨rfl,rfl⟩;go_wp2;go_ret;rw [H.out];exact ⟨rfl,rfl⟩
 ·have hr':At.right k l s t = false:=by simpa using hr
  have HR:Hid _:=hr';have H:Hid (y = 70):=by show y = 70;rw [← HY.out];simp [At.linkErr,hr']
  clear hr hr';go_enter Tryz.func207,Tryz.ntmps207;go_wp2_with fail;refine (acheck_no k l s t _ HR.out).mono ?_;rintro e w1 ⟨rfl,rfl⟩;go_wp2;go_ret;rw [H.out];exact ⟨rfl,rfl⟩
theorem link_any (k l s t n st:Int) (w:World):Calls Tryz.prog 193 #[VA k l s t,.int .i64 n,.int .i64 st] w fun e w'=>e = .returned (.tuple #[At.linkOut k l s t n st,.int .i64 (At.linkErr k l s t n st)])/\Bw w w':=by
 by_cases he:At.linkErr k l s t n st = 0
 ·have HE : Hid _ := he;have HO:Hid (At.linkOut k l s t n st = VA k (l + n) s st):=by show At.linkOut k l s t n st = _;unfold At.linkOut;rw [if_pos he]
  have hb : 0 ≤ l + n ∧ l + n ≤ 64 := by
   unfold At.linkErr at he;split at he
   ·split at he
    ·split at he
     ·split at he
      ·cases he
      ·split at he
       ·cases he
       ·omega
     ·cases he
    ·cases he
   ·cases he
  obtain ⟨hb0,hb1⟩:=hb;clear he;rw [HE.out,HO.out];go_enter Tryz.func193,Tryz.ntmps193;go_wp2_with fail;refine (alinkErr_any k l s t n st _).mono ?_;rintro e w1 ⟨rfl,rfl⟩;rw [HE.out];go_wp2;refine bodyPost_ret (v:=.tuple #[VA k (l + n) s st,.int .i64 0]) (by simp [results,Tryz.results193,go_sem]) rfl ⟨rfl,?_⟩;exact (((qG _ _).alloc (by simp) _).alloc (by simp;omega) _).alloc (by simp;omega) _
 ·have HO:Hid (At.linkOut k l s t n st = VA 0 0 0 0):=by show At.linkOut k l s t n st = _;unfold At.linkOut;rw [if_neg he]
  rw [HO.out];obtain ⟨y,hy⟩:=qE (At.linkErr k l s t n st);rw [hy] at he ⊢;have HY:Hid _:=hy;clear hy;go_enter Tryz.func193,Tryz.ntmps193;go_wp2_with fail;refine (alinkErr_any k l s t n st _).mono ?_;rintro e w1 ⟨rfl,rfl⟩;rw [HY.out];go_wp2;refine bodyPost_ret (v:=.tuple #[VA 0 0 0 0,.int .i64 y]) (by simp [results,Tryz.results193,go_sem]) rfl ⟨rfl,?_⟩;exact (((qG _ _).alloc (by simp) _).alloc (by simp;omega) _).alloc (by simp;omega) _
def At.growErr (k l s t n st:Int):Int :=
 if At.right k l s t then
  if t<=st/\st<=1099511627776 then
   if k = 0 then 7 else if 0<=n/\n<=1048576 then 0 else 408
  else 1
 else 70
def At.growOut (k l s t n st:Int):Value:=if At.growErr k l s t n st = 0 then VA k l n st else VA 0 0 0 0
theorem grow_any (k l s t n st:Int) (w:World):Calls Tryz.prog 99 #[VA k l s t,.int .i64 n,.int .i64 st] w fun e w'=>e = .returned (.tuple #[At.growOut k l s t n st,.int .i64 (At.growErr k l s t n st)])/\Bw w w':=by
 have HO:Hid (At.growOut k l s t n st = if At.growErr k l s t n st = 0 then VA k l n st else VA 0 0 0 0):=rfl;obtain ⟨z,hz⟩:=qE (At.growOut k l s t n st);obtain ⟨y,hy⟩:=qE (At.growErr k l s t n st);rw [hz,hy] at HO;have HY:Hid _:=hy;rw [hy,hz];clear hy hz
 by_cases hr:At.right k l s t = true
 ·have HR:Hid _:=hr
  by_cases hw:t<=st/\st<=1099511627776
  ·have HW:Hid _:=hw
   by_cases hk:k = 0
   ·have H:Hid (y = 7):=by show y = 7;rw [← HY.out];unfold At.growErr;rw [if_pos hr,if_pos hw,if_pos hk]
    have HZ:Hid (z = VA 0 0 0 0):=by have:=HO.out;rw [H.out,if_neg (by decide)] at this;exact this
    have hk':(k == 0) = true:=by simp [hk]
    clear hr hw hk;go_enter Tryz.func99,Tryz.ntmps99;go_wp2_with fail;refine (acheck_yes k l s t _ HR.out).mono ?_;rintro e w1 ⟨rfl,rfl⟩;go_wp2_with fail;refine (awithin_yes _ _ _ _ HW.out).mono ?_;rintro e w1 ⟨rfl,rfl⟩;go_wp2;refine bodyPost_ret (v:=.tuple #[VA 0 0 0 0,.int .i64 7]) (by simp [results,Tryz.results99,go_sem]) rfl ⟨by rw [H.out,HZ.out],?_⟩;exact ((qG _ _).alloc (by simp) _).alloc (by simp;omega) _
   ·have hk':(k == 0) = false:=beq_eq_false_iff_ne.2 hk
    by_cases hn:0<=n/\n<=1048576
    ·have HN:Hid _:=hn;have H:Hid (y = 0):=by show y = 0;rw [← HY.out];unfold At.growErr;rw [if_pos hr,if_pos hw,if_neg hk,if_pos hn]
     have HZ:Hid (z = VA k l n st):=by have:=HO.out;rw [H.out,if_pos rfl] at this;exact this
     clear hr hw hk hn;go_enter Tryz.func99,Tryz.ntmps99;go_wp2_with fail;refine (acheck_yes k l s t _ HR.out).mono ?_;rintro e w1 ⟨rfl,rfl⟩;go_wp2_with fail;refine (awithin_yes _ _ _ _ HW.out).mono ?_;rintro e w1 ⟨rfl,rfl⟩;go_wp2_with fail;refine (awithin_yes _ _ _ _ HN.out).mono ?_;rintro e w1 ⟨rfl,rfl⟩;go_wp2;refine bodyPost_ret (v:=.tuple #[VA k l n st,.int .i64 0]) (by simp [results,Tryz.results99,go_sem]) rfl ⟨by rw [H.out,HZ.out],?_⟩;exact ((qG _ _).alloc (by simp) _).alloc (by simp;omega) _
    ·have HN:Hid _:=hn;have H:Hid (y = 408):=by show y = 408;rw [← HY.out];unfold At.growErr;rw [if_pos hr,if_pos hw,if_neg hk,if_neg hn]
     have HZ:Hid (z = VA 0 0 0 0):=by have:=HO.out;rw [H.out,if_neg (by decide)] at this;exact this
     clear hr hw hk hn;go_enter Tryz.func99,Tryz.ntmps99;go_wp2_with fail;refine (acheck_yes k l s t _ HR.out).mono ?_;rintro e w1 ⟨rfl,rfl⟩;go_wp2_with fail;refine (awithin_yes _ _ _ _ HW.out).mono ?_;rintro e w1 ⟨rfl,rfl⟩;go_wp2_with fail;refine (awithin_no _ _ _ _ HN.out).mono ?_;rintro e w1 ⟨rfl,rfl⟩;go_wp2;refine bodyPost_ret (v:=.tuple #[VA 0 0 0 0,.int .i64 408]) (by simp [results,Tryz.results99,go_sem]) rfl ⟨by rw [H.out,HZ.out],?_⟩;exact ((qG _ _).alloc (by simp) _).alloc (by simp;omega) _
  ·have HW:Hid _:=hw;have H:Hid (y = 1):=by show y = 1;rw [← HY.out];unfold At.growErr;rw [if_pos hr,if_neg hw]
   have HZ:Hid (z = VA 0 0 0 0):=by have:=HO.out;rw [H.out,if_neg (by decide)] at this;exact this
   clear hr hw;go_enter Tryz.func99,Tryz.ntmps99;go_wp2_with fail;refine (acheck_yes k l s t _ HR.out).mono ?_;rintro e w1 ⟨rfl,rfl⟩;go_wp2_with fail;refine (awithin_no _ _ _ _ HW.out).mono ?_;rintro e w1 ⟨rfl,rfl⟩;go_wp2;refine bodyPost_ret (v:=.tuple #[VA 0 0 0 0,.int .i64 1]) (by simp [results,Tryz.results99,go_sem]) rfl ⟨by rw [H.out,HZ.out],?_⟩;exact ((qG _ _).alloc (by simp) _).alloc (by simp;omega) _
 ·have hr':At.right k l s t = false:=by simpa using hr
  have HR:Hid _:=hr';have H:Hid (y = 70):=by show y = 70;rw [← HY.out];simp [At.growErr,hr']
  have HZ:Hid (z = VA 0 0 0 0):=by have:=HO.out;rw [H.out,if_neg (by decide)] at this;exact this
  clear hr hr';go_enter Tryz.func99,Tryz.ntmps99;go_wp2_with fail;refine (acheck_no k l s t _ HR.out).mono ?_;rintro e w1 ⟨rfl,rfl⟩;go_wp2;refine bodyPost_ret (v:=.tuple #[VA 0 0 0 0,.int .i64 70]) (by simp [results,Tryz.results99,go_sem]) rfl ⟨by rw [H.out,HZ.out],?_⟩;exact ((qG _ _).alloc (by simp) _).alloc (by simp;omega) _
end
section
open Go.ChangeShapes Go.WideShapes Go.ChangeAt Go.RowKit Go.Deep It
def PutSaid (w:World) (L:List Ino) (a b:Int) (x:Ino) (e:Ending) (w':World):Prop :=
 ∃ u L',e = .returned (.tuple #[u,.int .i64 (putErr L a b x)])/\TabAt (fun b=>w.heap.size<=b) w' u L'/\pl L' = putTab L a b x/\Bw w w'
theorem put_said {w w':World} {L:List Ino} {a b:Int} {x:Ino} {e:Ending} {er:Int} (h:putErr L a b x = er) (hz:er≠0) (he:e = .returned (.tuple #[.slice none 0 0,.int .i64 er])) (hb:Bw w w'):PutSaid w L a b x e w':=by
 refine ⟨_,[],?_,tab_nil _ _,?_,hb⟩
 ·rw [he,h]
 ·unfold putTab;rw [h,if_neg hz];rfl
theorem put_any {S T:Nat->Prop} (v:Value) (L:List Rw) (a b:Int) (x:Rw) (w:World) (hv:TabAt S w v L) (hx:Good T w x) :
  Calls Tryz.prog 152 #[v,.agg #[.int .i64 a,.int .i64 b],VI x] w fun e w'=>PutSaid w (pl L) a b x.i e w':=by
 replace hx:GoodW w x:=hx.imp fun _ _ _=>trivial
 replace hv:TabW w v L:=hv.wide;obtain ⟨W,hW⟩:=qF ((w.alloc (BH a b)).alloc (B8 x.i.gen x.i.kind x.i.links x.i.size x.i.stamp (.slice x.rp x.rn x.rc) (.slice x.ep x.en x.ec) x.i.next));have HB0:Hid (Bw w W):=by show Bw w W;rw [hW];exact (qG _ _).alloc (by simp) _
 have HA0:Hid (W.heap[w.heap.size]? = some (BH a b)/\W.heap[w.heap.size + 1]? = some (B8 x.i.gen x.i.kind x.i.links x.i.size x.i.stamp (.slice x.rp x.rn x.rc) (.slice x.ep x.en x.ec) x.i.next)):=by
  rw [hW];refine ⟨(Below.heap_alloc _ _ _ (by simp)).trans (heap_alloc_new _ _),?_⟩;have:=heap_alloc_new (w.alloc (BH a b)) (B8 x.i.gen x.i.kind x.i.links x.i.size x.i.stamp (.slice x.rp x.rn x.rc) (.slice x.ep x.en x.ec) x.i.next)
  rwa [show (w.alloc (BH a b)).heap.size = w.heap.size + 1 by simp] at this
 have hws:w.heap.size + 1 < W.heap.size:=by rw [hW];simp
 have HV:Hid (TabW W v L):=hv.up HB0.out;have HGX:Hid (GoodW W x):=hx.up HB0.out;obtain ⟨⟨a0,a1⟩,_⟩:=two_of HA0.out.1;obtain ⟨ao,cap,rfl,_,_⟩:=hv.open;clear hv hx;obtain ⟨fe,hfe⟩:=qE (findErr (pl L) a b);have HFE:Hid (findErr (pl L) a b = fe):=hfe;have HI:Hid (x.i = x.i):=rfl;obtain ⟨X,hX⟩:=qF x;rw [← hX];rw [← hX] at HGX;have hXi:X.i = x.i:=by rw [hX]
 obtain ⟨⟨g,k,l,s,t,rs,es,nx⟩,rp,rn,rc,ep,en,ec⟩:=x;simp only at hW HA0 hXi;have hVI:VI X = .agg #[.int .i64 g,.int .i64 k,.int .i64 l,.int .i64 s,.int .i64 t,.slice rp rn rc,.slice ep en ec,.int .i64 nx]:=by rw [hX]
 have HVI:Hid (VI X = .agg #[.int .i64 g,.int .i64 k,.int .i64 l,.int .i64 s,.int .i64 t,.slice rp rn rc,.slice ep en ec,.int .i64 nx]):=hVI;rw [hVI];have HXI:Hid (X.i.gen = g/\X.i.kind = k):=by rw [hXi];exact ⟨rfl,rfl⟩
 clear hX hXi HI hVI
 by_cases hz:fe = 0
 ·rw [hz] at hfe HFE;subst hz;obtain ⟨hr,hn⟩:=It.right_of_find hfe;obtain ⟨no,y,rfl,hyk,hyg,hykd,hkl⟩:=It.named hn;have HK:Hid (no<=L.length/\L.length<=24):=⟨by omega,It.right_len hr⟩
  by_cases hc:g = b/\k≠0
  ·cases hrp:It.right (put (pl L) no X.i) with
   | true =>
    have HE:Hid (putErr (pl L) no b X.i = 0/\It.checkErr (put (pl L) no X.i) = 0):=by
     refine ⟨?_,by unfold It.checkErr;rw [if_pos hrp]⟩;unfold putErr;rw [if_pos hfe,if_pos (by rw [HXI.out.1,HXI.out.2];exact hc),show ((no:Int)).toNat = no from by omega,if_pos hrp]
    have hg1:(g != b) = false:=by simp [hc.1]
    have hk1:(k == 0) = false:=by simp [hc.2]
    clear hfe hr hn hyk hyg hykd hkl hc hrp;go_enter Tryz.func152,Tryz.ntmps152;go_wp2_with fail;rw [← hW];refine (refuse_any _ L no b _ HV.out).mono ?_;rintro e w1 ⟨rfl,hb1⟩;rw [HFE.out];have HB1:=qJ HB0 hb1;have HA1:Hid (w1.heap[w.heap.size]? = some (BH no b)/\w1.heap[w.heap.size + 1]? = some (B8 g k l s t (.slice rp rn rc) (.slice ep en ec) nx)):=⟨(hb1.block _ (by omega)).trans HA0.out.1,(hb1.block _ hws).trans HA0.out.2⟩;have HV1:Hid (TabW w1 (.slice ao L.length cap) L):=HV.out.up hb1;have HG1:Hid (GoodW w1 X):=HGX.out.up hb1;obtain ⟨⟨e0,e1⟩,_⟩:=two_of HA1.out.1;obtain ⟨q0,q1,q2,q3,q4,q5,q6,q7⟩:=(eight_of HA1.out.2).1;clear hb1 hW a0 a1 HV HGX HA0;go_wp2_with fail;rw [← HVI.out];refine (with_any _ L no X _ HV1.out HG1.out HK.out.2 HK.out.1).mono ?_;rintro e w2 ⟨tb,L2,rfl,ht2,hp2,hb2⟩;have HT2:Hid (TabAt (fun b=>w1.heap.size<=b) w2 tb L2/\pl L2 = put (pl L) no X.i):=⟨ht2,hp2⟩;have HB2:=qJ HB1 hb2;clear ht2 hp2 hb2;go_wp2_with fail;refine (check_any _ L2 _ HT2.out.1).mono ?_;rintro e w3 ⟨rfl,hb3⟩;rw [HT2.out.2,HE.out.2];have HT3:Hid _:=(HT2.out.1.up hb3).more HB1.out.size;have HB3:=qJ HB2 hb3;clear hb3;go_wp2
    go_ret2
    refine ⟨tb,L2,by rw [HE.out.1];rfl,HT3.out,?_,HB3.out⟩;unfold putTab;rw [if_pos HE.out.1,show ((no:Int)).toNat = no from by omega];exact HT2.out.2
   | false =>
    have HE:Hid (putErr (pl L) no b X.i = 4/\It.checkErr (put (pl L) no X.i) = 4):=by
     refine ⟨?_,by unfold It.checkErr;rw [hrp];rfl⟩;unfold putErr;rw [if_pos hfe,if_pos (by rw [HXI.out.1,HXI.out.2];exact hc),show ((no:Int)).toNat = no from by omega,hrp];rfl
    have hg1:(g != b) = false:=by simp [hc.1]
    have hk1:(k == 0) = false:=by simp [hc.2]
    clear hfe hr hn hyk hyg hykd hkl hc hrp;go_enter Tryz.func152,Tryz.ntmps152;go_wp2_with fail;rw [← hW];refine (refuse_any _ L no b _ HV.out).mono ?_;rintro e w1 ⟨rfl,hb1⟩;rw [HFE.out];have HB1:=qJ HB0 hb1;have HA1:Hid (w1.heap[w.heap.size]? = some (BH no b)/\w1.heap[w.heap.size + 1]? = some (B8 g k l s t (.slice rp rn rc) (.slice ep en ec) nx)):=⟨(hb1.block _ (by omega)).trans HA0.out.1,(hb1.block _ hws).trans HA0.out.2⟩;have HV1:Hid (TabW w1 (.slice ao L.length cap) L):=HV.out.up hb1;have HG1:Hid (GoodW w1 X):=HGX.out.up hb1;obtain ⟨⟨e0,e1⟩,_⟩:=two_of HA1.out.1;obtain ⟨q0,q1,q2,q3,q4,q5,q6,q7⟩:=(eight_of HA1.out.2).1;clear hb1 hW a0 a1 HV HGX HA0;go_wp2_with fail;rw [← HVI.out];refine (with_any _ L no X _ HV1.out HG1.out HK.out.2 HK.out.1).mono ?_;rintro e w2 ⟨tb,L2,rfl,ht2,hp2,hb2⟩;have HT2:Hid (TabAt (fun b=>w1.heap.size<=b) w2 tb L2/\pl L2 = put (pl L) no X.i):=⟨ht2,hp2⟩;have HB2:=qJ HB1 hb2;clear ht2 hp2 hb2;go_wp2_with fail;refine (check_any _ L2 _ HT2.out.1).mono ?_;rintro e w3 ⟨rfl,hb3⟩;rw [HT2.out.2,HE.out.2];have HB3:=qJ HB2 hb3;clear hb3;go_wp2
    go_ret2
    exact put_said HE.out.1 (by decide) rfl HB3.out
  ·have HE:Hid (putErr (pl L) no b X.i = 1):=by
    show putErr (pl L) no b X.i = 1;unfold putErr;rw [if_pos hfe,if_neg (by rw [HXI.out.1,HXI.out.2];exact hc)]
   have hor:(g != b) = true∨((g != b) = false/\(k == 0) = true):=by
    by_cases hgb:g = b
    ·refine .inr ⟨by simp [hgb],?_⟩
     by_cases hk0:k = 0
     ·simp [hk0]
     ·exact absurd ⟨hgb,hk0⟩ hc
    ·exact .inl (by simp [hgb])
   clear hfe hr hn hyk hyg hykd hkl hc;rcases hor with hg1 | ⟨hg1,hk1⟩
   all_goals
    go_enter Tryz.func152,Tryz.ntmps152;go_wp2_with fail;rw [← hW];refine (refuse_any _ L no b _ HV.out).mono ?_;rintro e w1 ⟨rfl,hb1⟩;rw [HFE.out];have HB1:=qJ HB0 hb1;have HA1:Hid (w1.heap[w.heap.size]? = some (BH no b)/\w1.heap[w.heap.size + 1]? = some (B8 g k l s t (.slice rp rn rc) (.slice ep en ec) nx)):=⟨(hb1.block _ (by omega)).trans HA0.out.1,(hb1.block _ hws).trans HA0.out.2⟩;obtain ⟨⟨e0,e1⟩,_⟩:=two_of HA1.out.1;obtain ⟨q0,q1,q2,q3,q4,q5,q6,q7⟩:=(eight_of HA1.out.2).1;clear hb1 hW a0 a1 HV HGX HA0;go_wp2
    go_ret2
    exact put_said HE.out (by decide) rfl HB1.out
 ·have HE:Hid (putErr (pl L) a b X.i = fe):=by
   show putErr (pl L) a b X.i = fe;unfold putErr;rw [hfe,if_neg hz]
  have HZ:Hid _:=hz;have hz':(fe == 0) = false:=by simp [hz]
  clear hz hfe;go_enter Tryz.func152,Tryz.ntmps152;go_wp2_with fail;rw [← hW];refine (refuse_any _ L a b _ HV.out).mono ?_;rintro e w1 ⟨rfl,hb1⟩;rw [HFE.out];have HB1:=qJ HB0 hb1;clear hb1 hW a0 a1;go_wp2
  go_ret2
  exact put_said HE.out HZ.out rfl HB1.out
theorem refuseName_any {S:Nat->Prop} (v:Value) (L:List Rw) (a b:Int) (s:ByteArray) (w:World) (hv:TabAt S w v L) (hok:Sp.okN L) (hs:s.size<=maxLen) :
    Calls Tryz.prog 190 #[v,.agg #[.int .i64 a,.int .i64 b],.string s] w fun e w'=>e = .returned (.int .i64 (Sp.nameErr (pl L) a b s))/\Bw w w':=by
  have HB0:Hid (Bw w (w.alloc (BH a b))):=qG _ _;obtain ⟨⟨a0,a1⟩,_⟩:=two_of (heap_alloc_new w (BH a b));have HV:Hid (TabAt S (w.alloc (BH a b)) v L):=hv.up HB0.out;obtain ⟨ao,cap,rfl,_,_⟩:=hv.open;have HOK:Hid (Sp.okN L):=hok;have HSM:Hid (s.size<=maxLen):=hs;clear hv hok hs;obtain ⟨ne,hne⟩:=qE (Sp.nameErr (pl L) a b s);have HNE:Hid (Sp.nameErr (pl L) a b s = ne):=hne;rw [hne];unfold Sp.nameErr at hne;obtain ⟨le,hle⟩:=qE (Sp.lookErr (pl L) a b s);have HLE:Hid (Sp.lookErr (pl L) a b s = le):=hle;rw [hle] at hne;clear hle
  by_cases h0:le = 0
  · subst h0
    rw [if_pos rfl] at hne;subst hne;go_enter Tryz.func190,Tryz.ntmps190;go_wp2_with fail;refine (sfind_any _ L a b s _ HV.out HOK.out HSM.out).mono ?_;rintro e w1 ⟨rfl,hb1⟩;rw [HLE.out];generalize Sp.lookH (pl L) a b s = q;have HB1:Hid (Bw w w1):=HB0.out.trans (hb1.mono HB0.out.size);clear a0 a1 HV hb1;go_wp2;go_ret;refine ⟨rfl,?_⟩;exact HB1.out.alloc HB1.out.size _
  · have h0' : (le == 0) = false := beq_eq_false_iff_ne.2 h0
    rw [if_neg h0] at hne
    by_cases h2:le = 402
    · subst h2
      rw [if_pos rfl] at hne;subst hne;clear h0 h0';go_enter Tryz.func190,Tryz.ntmps190;go_wp2_with fail;refine (sfind_any _ L a b s _ HV.out HOK.out HSM.out).mono ?_;rintro e w1 ⟨rfl,hb1⟩;rw [HLE.out];generalize Sp.lookH (pl L) a b s = q;have HB1:Hid (Bw w w1):=HB0.out.trans (hb1.mono HB0.out.size);clear a0 a1 HV hb1;go_wp2;go_ret;refine ⟨rfl,?_⟩;exact HB1.out.alloc HB1.out.size _
    · have h2' : (le == 402) = false := beq_eq_false_iff_ne.2 h2
      rw [if_neg h2] at hne;subst hne;clear h0 h2;go_enter Tryz.func190,Tryz.ntmps190;go_wp2_with fail;refine (sfind_any _ L a b s _ HV.out HOK.out HSM.out).mono ?_;rintro e w1 ⟨rfl,hb1⟩;rw [HLE.out];generalize Sp.lookH (pl L) a b s = q;have HB1:Hid (Bw w w1):=HB0.out.trans (hb1.mono HB0.out.size);clear a0 a1 HV hb1;go_wp2;go_ret;refine ⟨rfl,?_⟩;exact HB1.out.alloc HB1.out.size _
/-- A file with a link more, or less. -/
def Sp.linked (x:Ino) (n st:Int):Ino:=⟨x.gen,x.kind,x.links + n,x.size,st,x.runs,x.ents,x.next⟩
theorem good_linked {S:Nat->Prop} {w:World} {x:Rw} (h:Good S w x) (n st:Int):Good S w ⟨Sp.linked x.i n st,x.rp,x.rn,x.rc,x.ep,x.en,x.ec⟩:=h
theorem count_any {S:Nat->Prop} (v:Value) (L:List Rw) (k:Nat) (b n st:Int) (x:Rw) (w:World) (hv:TabAt S w v L) (hk:L[k]? = some x) (he:At.linkErr x.i.kind x.i.links x.i.size x.i.stamp n st = 0) :
    Calls Tryz.prog 155 #[v,.agg #[.int .i64 k,.int .i64 b],.int .i64 n,.int .i64 st] w fun e w'=>∃ u L',e = .returned u/\TabAt (fun b=>w.heap.size<=b) w' u L'/\pl L' = putTab (pl L) k b (Sp.linked x.i n st)/\Bw w w':=by
  have HV:Hid (TabAt S w v L):=hv;obtain ⟨ao,cap,rfl,hm,hx⟩:=hv.open;obtain ⟨⟨bb,off,rfl,hB,c0,c1,c2,c3,c4,c5,c6,c7⟩,hg⟩:=hx k x hk;have hkl:(k:Int) < (L.length:Int):=by have:=(List.getElem?_eq_some_iff.1 hk).1;omega
  have HG:Hid (Good S w x):=hg;have HE:Hid (At.linkErr x.i.kind x.i.links x.i.size x.i.stamp n st = 0/\At.linkOut x.i.kind x.i.links x.i.size x.i.stamp n st = VA x.i.kind (x.i.links + n) x.i.size st):=⟨he,by unfold At.linkOut;rw [if_pos he]⟩;unfold maxLen at hm;obtain ⟨m,hm'⟩:=qE L.length;rw [hm'] at HV hm hkl ⊢;clear hv hx hg he hk hm';go_enter Tryz.func155,Tryz.ntmps155;go_wp2_with fail;refine (link_any _ _ _ _ _ _ _).mono ?_;rintro e w1 ⟨rfl,hb1⟩;rw [HE.out.1,HE.out.2];have HB1:Hid (Bw w w1):=((qG _ _).alloc (by simp) _).trans (hb1.mono (by simp;omega));have HA1:Hid (w1.heap[w.heap.size]? = some (BH k b)/\w1.heap[w.heap.size + 1]? = some (BIx x)):=by
    refine ⟨(hb1.block _ (by simp;omega)).trans ((Below.heap_alloc _ _ _ (by simp)).trans (heap_alloc_new _ _)),(hb1.block _ (by simp)).trans ?_⟩;have:=heap_alloc_new (w.alloc (BH k b)) (BIx x)
    rwa [show (w.alloc (BH k b)).heap.size = w.heap.size + 1 by simp] at this
  have hs1:w.heap.size + 1 < w1.heap.size:=by have:=hb1.size;simp at this;omega
  obtain ⟨⟨a0,a1⟩,_⟩:=two_of HA1.out.1;obtain ⟨⟨q0,q1,q2,q3,q4,q5,q6,q7⟩,qf⟩:=eight_of HA1.out.2;clear hb1 c0 c1 c2 c3 c4 c5 c6 c7 HA1;go_wp2_with fail;have HB2:Hid (Bw w ((((w1.setCell ⟨w.heap.size + 1,1,none⟩ (.int .i64 x.i.kind)).setCell ⟨w.heap.size + 1,2,none⟩ (.int .i64 (x.i.links + n))).setCell ⟨w.heap.size + 1,3,none⟩ (.int .i64 x.i.size)).setCell ⟨w.heap.size + 1,4,none⟩ (.int .i64 st))):=by
    repeat (first | exact HB1.out | refine Below.setCell ?_ (by simp) _)
  refine (put_any _ L k b ⟨Sp.linked x.i n st,x.rp,x.rn,x.rc,x.ep,x.en,x.ec⟩ _ (HV.out.up HB2.out) (good_linked (HG.out.up HB2.out) n st)).mono ?_;rintro e w3 ⟨u,L',rfl,ht,hp,hb3⟩;have HB3:Hid (Bw w w3):=HB2.out.trans (hb3.mono HB2.out.size);have HT:Hid (TabAt (fun b=>w.heap.size<=b) w3 u L'):=⟨ht.1.imp fun _ h _=>Nat.le_trans HB2.out.size h,fun y hy=>(ht.2 y hy).imp fun _ h _=>Nat.le_trans HB2.out.size h⟩;have HP:Hid (pl L' = putTab (pl L) k b (Sp.linked x.i n st)):=hp;clear hb3 ht hp a0 a1 q0 q1 q2 q3 q4 q5 q6 q7;go_wp2;go_ret;exact ⟨u,L',rfl,HT.out,HP.out,HB3.out⟩
end
end Go.Proofs.YtneojimodomohaaGreat
