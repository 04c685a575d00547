/- FRefB, NByt, TPlain, TPlainU, KPlain, TNum, KBase, FRefD, FRefE, RNm, RRe, RRt0, as one. -/
import Derived.Lib.IndexBytes
import Derived.Laws.BytesArg
import Derived.Deep.OwnRows
import Derived.Test.YtneojimodomohaaGreatX1
set_option maxHeartbeats 8000000
set_option maxRecDepth 100000
namespace Go.Proofs.YtneojimodomohaaGreat
open Go.ChangeShapes Go.WideShapes Go.ChangeAt Go.RowKit Go.Deep
namespace Fo
def firsts (l:List Ent) (k:Nat):Prop:=∀ (i:Nat) x,i < k->l[i]? = some x->at' (called x.1) l = i
theorem called_iff {s:ByteArray} {x:Ent}:called s x = true ↔ x.1 = s:=by
 unfold called;rw [beq_iff_eq,ByteArray.toList_eq,ByteArray.toList_eq];constructor
 ·intro h;obtain ⟨⟨⟨a⟩⟩,c⟩:=x;obtain ⟨⟨b⟩⟩:=s;simp only at h;simp [h]
 ·rintro rfl;rfl
theorem first_of_apart {l:List Ent} (h:apart l) {i:Nat} {x:Ent} (hx:l[i]? = some x):at' (called x.1) l = i:=by
 refine at_hit hx (called_iff.2 rfl) fun j y hj hy=>?_
 cases hc:called x.1 y
 ·rfl
 ·exfalso;have e:=called_iff.1 hc;have hil:=(List.getElem?_eq_some_iff.1 hx);have hjl:=(List.getElem?_eq_some_iff.1 hy);have:=(List.pairwise_iff_getElem.1 h) j i (by simpa using hjl.1) (by simpa using hil.1) hj;apply this
  simp only [List.getElem_map,hil.2,hjl.2];exact e
theorem apart_of_firsts {l:List Ent} (h:firsts l l.length):apart l:=by
 refine List.pairwise_iff_getElem.2 fun i j hi hj hij e=>?_
 have hj':j < l.length:=by simpa using hj
 have hx:l[i]? = some (l[i]'(by omega)):=List.getElem?_eq_getElem _;have hy:l[j]? = some (l[j]'hj'):=List.getElem?_eq_getElem _;have h1:=h i _ (by omega) hx;have h2:=h j _ hj' hy;simp only [List.getElem_map] at e;rw [e,h2] at h1;omega
theorem firsts_zero (l:List Ent):firsts l 0:=fun i x h=>by omega
theorem firsts_succ {l:List Ent} {k:Nat} {x:Ent} (h:firsts l k) (hx:l[k]? = some x) (hp:at' (called x.1) l = k):firsts l (k + 1):=fun i y hi hy=>by
 by_cases e:i = k
 ·subst e;rw [hx] at hy
  cases hy
  exact hp
 ·exact h i y (by omega) hy
end Fo
theorem frright_any (v:Value) (l:List Ent) (next:Int) (w:World) (hv:AtW EE w v l) (hs:∀ x∈l,x.1.size<=maxLen) :
  Calls Tryz.prog 86 #[v,.int .i64 next] w fun e w'=>e = .returned (.bool (decide (Fo.err l next = 0)))/\Bw w w':=by
 have HV:Hid (AtW EE w v l):=hv;obtain ⟨ao,cap,rfl,hm,hx⟩:=hv.open;clear hv;unfold maxLen at hm;obtain ⟨n,hn⟩:=qE l.length;rw [hn] at hm HV ⊢;have HN:Hid (l.length = n):=hn;have HX:Hid (∀ i x,l[i]? = some x->∃ b off,ao = some ⟨b,off,none⟩/\True/\b < w.heap.size/\∀ k u,(EE.cells x)[k]? = some u->w.cell? ⟨b,off + (i * EE.sz + k),none⟩ = some u):=hx;have HS:Hid (∀ x∈l,x.1.size<=maxLen):=hs;clear hn hx hs
 by_cases n0:next < 0
 ·have H:Hid (Fo.err l next = 4):=Fo.err_no fun h=>by have:=h.1.1;omega
  rw [H.out];go_enter Tryz.func86,Tryz.ntmps86;go_wp2;go_ret;exact ⟨rfl,Below.refl _ _⟩
 by_cases n1:1099511627776 < next
 ·have H:Hid (Fo.err l next = 4):=Fo.err_no fun h=>by have:=h.1.2;omega
  rw [H.out];go_enter Tryz.func86,Tryz.ntmps86;go_wp2;go_ret;exact ⟨rfl,Below.refl _ _⟩
 have H1:Hid (0<=next/\next<=1099511627776):=⟨by omega,by omega⟩;go_enter Tryz.func86,Tryz.ntmps86;go_wp2;go_loopw [15] (fun i wr=>∃ k:Nat,k<=n/\i = .int .i64 k/\Hid (Fo.Pre next l k/\Fo.firsts l k)/\Hid (Bw w wr)) (fun i _=>n - (intOf i).toNat)
 case atStart=>exact ⟨0,Nat.zero_le _,rfl,⟨Fo.pre_zero _ _,Fo.firsts_zero _⟩,Below.refl _ _⟩
 case round =>
  obtain ⟨k,hk,rfl,HP,HB⟩:=hrel
  by_cases hlt:k < n
  ·obtain ⟨x,hxk⟩:∃ x,l[k]? = some x:=⟨_,List.getElem?_eq_getElem (by rw [HN.out];exact hlt)⟩;have HXK:Hid (l[k]? = some x):=hxk;obtain ⟨b2,off,rfl,-,hB,hcx⟩:=HX.out k x hxk;have a:=fun j u hj=>(HB.out.cell (p:=⟨b2,off + (k * EE.sz + j),none⟩) hB).trans (hcx j u hj)
   have c0:wr.cell? ⟨b2,off + k * 4,none⟩ = some (.string x.1):=a 0 _ rfl;have c1:wr.cell? ⟨b2,off + k * 4 + 1,none⟩ = some (.int .i64 x.2.1):=a 1 _ rfl;have c2:wr.cell? ⟨b2,off + k * 4 + 2,none⟩ = some (.int .i64 x.2.2.1):=a 2 _ rfl;have c3:wr.cell? ⟨b2,off + k * 4 + 3,none⟩ = some (.int .i64 x.2.2.2):=a 3 _ rfl;have HBX:Hid (b2 < w.heap.size):=hB;have hsz:=HB.out.size;have HSZ:Hid (x.1.size<=maxLen):=HS.out x (List.mem_of_getElem? hxk);have HV1:Hid (AtW EE (wr.alloc (BE x)) (.slice (some ⟨b2,off,none⟩) n cap) l):=(HV.out.up HB.out).up (qG _ _);have HB1:Hid (Bw w (wr.alloc (BE x))):=HB.out.alloc hsz _;obtain ⟨⟨x0,x1,x2,x3⟩,-⟩:=four_of (heap_alloc_new wr (BE x));have hlt':(k:Int) < (n:Int):=by omega
   clear a hcx hxk n0 n1 hB;obtain ⟨xs,xc,xo,xg⟩:=x;simp only at c0 c1 c2 c3 HSZ x0 x1 x2 x3 HV1 HB1;go_wp2_with fail;refine (rname_any xs _ HSZ.out).mono ?_;rintro e w1 ⟨rfl,rfl⟩;clear c0 c1 c2 c3
   by_cases g1:Nm.ok xs
   case neg =>
    have H:Hid (Fo.err l next = 4):=Fo.not_good HXK.out fun h=>g1 h.1
    rw [Nm.err_no g1];clear g1;go_wp2;go_ret;rw [H.out];exact ⟨rfl,HB1.out⟩
   rw [Nm.err_ok g1];have G1:Hid (Nm.ok xs):=g1;clear g1;go_wp2_with fail;refine (rplace_any _ l xs _ HV1.out).mono ?_;rintro e w2 ⟨rfl,hb2⟩;have HB2:=qJ HB1 hb2;have y1:=cell_step x1 hb2;have y2:=cell_step x2 hb2;have y3:=cell_step x3 hb2;have hs2:=HB2.out.size;clear hb2 x0 x1 x2 x3
   by_cases g2:Fo.at' (Fo.called xs) l = k
   case neg =>
    obtain ⟨p,hp⟩:=qE (Fo.at' (Fo.called xs) l);have hne:¬ p = (k:Int):=by rw [← hp];exact g2
    have H:Hid (Fo.err l next = 4):=Fo.err_no fun h=>g2 (Fo.first_of_apart h.2.2 HXK.out)
    rw [hp];clear g2 hp;go_wp2;go_ret;rw [H.out];exact ⟨rfl,HB2.out⟩
   rw [g2];have G2:Hid (Fo.at' (Fo.called xs) l = k):=g2;clear g2;go_wp2_with fail;refine (rto_any xo xg _).mono ?_;rintro e w3 ⟨rfl,rfl⟩;have z1:=(cell_older (cell_lt y1) (BHf xo xg) 1).trans y1;have HB3:Hid (Bw w (w2.alloc (BHf xo xg))):=HB2.out.alloc hs2 _
   by_cases g3:Ho xo xg
   case neg =>
    have H:Hid (Fo.err l next = 4):=Fo.not_good HXK.out fun h=>g3 h.2.2
    rw [decide_eq_false g3];clear g3;go_wp2;go_ret;rw [H.out];exact ⟨rfl,HB3.out⟩
   rw [decide_eq_true g3];have G3:Hid (Ho xo xg):=g3;clear g3
   by_cases g4:xc < 1
   case pos =>
    have H:Hid (Fo.err l next = 4):=Fo.not_good HXK.out fun h=>by
     have h1:=(Fo.lastC_bd HP.out.1 (by rw [HN.out];exact hk) H1.out.1).1;have h2:=h.2.1.1;simp only at h2;omega
    go_wp2;go_ret;rw [H.out];exact ⟨rfl,HB3.out⟩
   by_cases g5:next < xc
   case pos =>
    have H:Hid (Fo.err l next = 4):=Fo.not_good HXK.out fun h=>by
     have h2:=h.2.1.2;simp only at h2;omega
    go_wp2;go_ret;rw [H.out];exact ⟨rfl,HB3.out⟩
   by_cases g6:k = 0
   ·have HG:Hid (Fo.Pre next l (k + 1)/\Fo.firsts l (k + 1)):=⟨Fo.pre_succ HP.out.1 fun y hy=>by
     rw [HXK.out] at hy
     cases hy
     subst g6;exact ⟨G1.out,⟨by simp only [Fo.lastC];omega,by simp only;omega⟩,G3.out⟩,Fo.firsts_succ HP.out.2 HXK.out G2.out⟩
    subst g6;go_wp2_with fail
    go_quiet (fail)
    go_wp2
    go_roundw
    case rel=>exact ⟨0 + 1,by omega,by go_num,HG,below_drewN HB3.out _⟩
    case measure=>simp [intOf];omega
   ·obtain ⟨j,rfl⟩:∃ j,k = j + 1:=⟨k - 1,by omega⟩;obtain ⟨y,hyj⟩:∃ y,l[j]? = some y:=⟨_,List.getElem?_eq_getElem (by rw [HN.out];omega)⟩;have HL:Hid (Fo.lastC l (j + 1) = y.2.1):=Fo.lastC_succ hyj;obtain ⟨b3,off3,hbo,-,hB3,hcy⟩:=HX.out j y hyj;simp only [Option.some.injEq,Addr.mk.injEq,and_true] at hbo;obtain ⟨rfl,rfl⟩:=hbo;have v1:=(cell_older (Nat.lt_of_lt_of_le HBX.out hs2) (BHf xo xg) (off + j * 4 + 1)).trans ((HB2.out.cell (p:=⟨b2,off + j * 4 + 1,none⟩) HBX.out).trans (hcy 1 _ rfl));clear hyj hcy g6;have hj0:(0:Int) < ((j + 1:Nat):Int):=by omega
    have hjs:((j + 1:Nat):Int) - 1 = (j:Int):=by omega
    obtain ⟨yc,hyc⟩:=qE y.2.1;rw [hyc] at HL v1;clear hyc
    by_cases g7:xc<=yc
    ·have H:Hid (Fo.err l next = 4):=Fo.not_good HXK.out fun h=>by
      have h2:=h.2.1.1;simp only at h2;rw [HL.out] at h2;omega
     go_wp2_with fail
     go_quiet (fail)
     go_wp2;go_ret;rw [H.out];exact ⟨rfl,below_drewN HB3.out _⟩
    ·have HG:Hid (Fo.Pre next l (j + 1 + 1)/\Fo.firsts l (j + 1 + 1)):=⟨Fo.pre_succ HP.out.1 fun y hy=>by
      rw [HXK.out] at hy
      cases hy
      exact ⟨G1.out,⟨by rw [HL.out];simp only;omega,by simp only;omega⟩,G3.out⟩,Fo.firsts_succ HP.out.2 HXK.out G2.out⟩
     go_wp2_with fail
     go_quiet (fail)
     go_wp2
     go_roundw
     case rel=>exact ⟨j + 1 + 1,by omega,by go_num,HG,below_drewN HB3.out _⟩
     case measure=>simp [intOf];omega
  ·obtain rfl:k = n:=by omega
   have HA:Hid (Fo.err l next = 0):=Fo.err_ok ⟨H1.out,by rw [HN.out];exact HP.out.1,Fo.apart_of_firsts (by rw [HN.out];exact HP.out.2)⟩;go_wp2;go_ret;rw [HA.out];exact ⟨rfl,HB.out⟩
end Go.Proofs.YtneojimodomohaaGreat
namespace Go.Proofs.YtneojimodomohaaGreat
open Go.ChangeShapes Go.WideShapes Go.ChangeAt Go.RowKit Go.Deep It
namespace It
theorem wrap_wrap (a b:Int):wrap64 (a + wrap64 b) = wrap64 (a + b):=by
 unfold wrap64;omega
theorem sumw_from (l:List Bl.R):∀ y:Int,l.foldl (fun y r=>wrap64 (y + (r.2.size:Int))) (wrap64 y) = wrap64 (y + Bl.sumw l):=by
 have key:∀ (l:List Bl.R) (y z:Int),l.foldl (fun y r=>wrap64 (y + (r.2.size:Int))) (wrap64 (y + z)) = wrap64 (y + l.foldl (fun y r=>wrap64 (y + (r.2.size:Int))) (wrap64 z)):=by
  intro l
  induction l with
  | nil=>intro y z;simp only [List.foldl_nil];rw [wrap_wrap]
  | cons r l ih =>
   intro y z;simp only [List.foldl_cons];have e1:wrap64 (wrap64 (y + z) + (r.2.size:Int)) = wrap64 (y + (z + (r.2.size:Int))):=by unfold wrap64;omega
   have e2:wrap64 (wrap64 z + (r.2.size:Int)) = wrap64 (z + (r.2.size:Int)):=by unfold wrap64;omega
   rw [e1,e2,ih]
 intro y;have:=key l y 0;rw [Int.add_zero] at this;rw [this,show wrap64 (0:Int) = 0 from by unfold wrap64;decide];rfl
def bytesAt (L:List Ino) (k j:Nat) (x:Ino):Int:=(x.runs.take j).foldl (fun y r=>wrap64 (y + (r.2.size:Int))) (allBytes (L.take k))
theorem bytes_wrapped (L:List Ino):wrap64 (allBytes L) = allBytes L:=by
 rcases List.eq_nil_or_concat L with rfl | ⟨m,s,rfl⟩
 ·show wrap64 (0:Int) = 0;unfold wrap64
  decide
 ·unfold allBytes;rw [List.concat_eq_append,List.foldl_append];simp only [List.foldl_cons,List.foldl_nil];unfold wrap64;omega
theorem bytesAt_end (L:List Ino) (k:Nat) (x:Ino):bytesAt L k x.runs.length x = wrap64 (allBytes (L.take k) + Bl.sumw x.runs):=by
 unfold bytesAt;rw [List.take_length,← sumw_from,bytes_wrapped]
theorem bytesAt_succ {L:List Ino} {k j:Nat} {x:Ino} {r:Int × ByteArray} (h:x.runs[j]? = some r):bytesAt L k (j + 1) x = wrap64 (bytesAt L k j x + (r.2.size:Int)):=by
 unfold bytesAt;rw [take_succ h,List.foldl_append];rfl
end It
end Go.Proofs.YtneojimodomohaaGreat
namespace Go.Proofs.YtneojimodomohaaGreat.Ks
namespace Pl
def tagOf (l:List UInt8):Int:=(l.getD 0 0).toNat
def lenOf (l:List UInt8):Nat:=256 * (l.getD 1 0).toNat + (l.getD 2 0).toNat
def stepErr (last:Int) (l:List UInt8):Int:=if l.length < 3 then 10 else if tagOf l = 0 then 4 else if tagOf l < last then 11 else if l.length - 3 < lenOf l then 10 else 0
def fieldOf (l:List UInt8):Int × ByteArray:=(tagOf l,txt ((l.drop 3).take (lenOf l)))
def parse:Nat->Int->List UInt8->List (Int × ByteArray) × Int
  | 0,_,_=>([],0)
  | f + 1,last,l=>if l = [] then ([],0) else if stepErr last l = 0 then join [fieldOf l] (parse f (tagOf l) (l.drop (3 + lenOf l))) else ([],stepErr last l)
def unpOut (l:List UInt8):List (Int × ByteArray):=(parse l.length 1 l).1
def unpErr (l:List UInt8):Int:=(parse l.length 1 l).2
/-- On the way: the fields that are done, the last tag, the bytes that are left. -/
def Mid (l0:List UInt8) (done:List (Int × ByteArray)) (last:Int) (rest:List UInt8):Prop :=
  done.length * 3 + rest.length<=l0.length/\∃ f,rest.length<=f/\parse l0.length 1 l0 = join done (parse f last rest)
end Pl
end Go.Proofs.YtneojimodomohaaGreat.Ks
namespace Go.Proofs.YtneojimodomohaaGreat
open Go.ChangeShapes Go.WideShapes Go.ChangeAt Go.RowKit Go.Deep It
def Sp.toI (no:Int) (e:Sp.En):Bool:=e.2.2.1 == no
def Sp.nmv (L:List Ino) (no:Int):Nat:=(Sp.allEnts L).countP (Sp.toI no)
theorem Sp.nmv_step {L:List Rw} {k:Nat} {x:Rw} (h:L[k]? = some x) (no:Int):Sp.nmv (pl (L.take (k + 1))) no = Sp.nmv (pl (L.take k)) no + x.i.ents.countP (Sp.toI no):=by
 rw [List.take_add_one,h];simp [Sp.nmv,Sp.allEnts,List.countP_append]
theorem cntP_step {α:Type} {q:α->Bool} {l:List α} {j:Nat} {e:α} (h:l[j]? = some e):(l.take (j + 1)).countP q = (l.take j).countP q + if q e = true then 1 else 0:=by
 rw [List.take_add_one,h];simp [List.countP_append,List.countP_cons]
theorem Sp.nmv_le {S:Nat->Prop} {w:World} {L:List Rw} (no:Int) (h:∀ x∈L,Good S w x):∀ k,k<=L.length->Sp.nmv (pl (L.take k)) no<=k * 3518437208883
 | 0,_=>by simp [Sp.nmv,Sp.allEnts]
 | k + 1,hk=>by
  have hx:L[k]? = some L[k]:=List.getElem?_eq_getElem hk;rw [Sp.nmv_step hx];have h1:=Sp.nmv_le no h k (by omega);have h2:=(h _ (List.mem_of_getElem? hx)).2.2.2.2;have h3:L[k].i.ents.countP (Sp.toI no)<=L[k].i.ents.length:=List.countP_le_length;omega
theorem rnum_any {S:Nat->Prop} (v:Value) (L:List Rw) (no:Int) (w:World) (hv:TabAt S w v L) (hL:L.length<=24) :
  Calls Tryz.prog 87 #[v,.int .i64 no] w fun e w'=>e = .returned (.int .i64 (Sp.nmv (pl L) no:Nat))/\Bw w w':=by
 obtain ⟨ao,cap,rfl,-,-⟩:=hv.open;obtain ⟨n,hn⟩:=qE L.length;have HLE:Hid _:=Sp.nmv_le no hv.2;rw [hn] at hv hL ⊢;have HN:Hid _:=hn;have HV:Hid _:=hv;obtain ⟨r,hr⟩:=qE (Sp.nmv (pl L) no);have HR:Hid _:=hr;rw [hr];clear hr hn hv;go_enter Tryz.func87,Tryz.ntmps87;go_wp2;go_loopw [5,12] (fun g i wr=>∃ k:Nat,k<=n/\i = .int .i64 k/\g = .int .i64 (Sp.nmv (pl (L.take k)) no:Nat)/\Hid (Bw w wr)) (fun _ i _=>n - (intOf i).toNat)
 case atStart=>exact ⟨0,Nat.zero_le _,rfl,rfl,Below.refl _ _⟩
 case round =>
  obtain ⟨k,hk,rfl,rfl,HB⟩:=hrel;have hsz:=HB.out.size;obtain ⟨g,hg⟩:=qE (Sp.nmv (pl (L.take k)) no);have HGG:Hid _:=hg;have hgb:=HLE.out k (by rw [HN.out];exact hk);rw [hg] at hgb ⊢;clear hg
  by_cases hlt:k < n
  ·obtain ⟨x,hxk⟩:∃ x,L[k]? = some x:=⟨_,List.getElem?_eq_getElem (by rw [HN.out];exact hlt)⟩;have HXK:Hid _:=hxk;obtain ⟨⟨b,off,rfl,hB,hc⟩,hen,hel,hes⟩:=tab_eight HV.out hxk;have HES:Hid _:=hes;obtain ⟨c0,c1,c2,c3,c4,c5,c6,c7⟩:=hc.below HB.out hB;have hlt':(k:Int) < (n:Int):=by omega
   obtain ⟨m,hm⟩:=qE x.en;obtain ⟨ep,hep⟩:=qE x.ep;have HM:Hid _:=hen.symm.trans hm;have hmb:m<=3518437208883:=by rw [← HM.out];exact hel
   have HEP:Hid _:=hep;rw [hm,hep] at c6;clear hc hxk hes hen hel hm hep;go_wp2;go_loopw [5,19] (fun t i wr=>∃ j:Nat,j<=m/\i = .int .i64 j/\t = .int .i64 ((g + (x.i.ents.take j).countP (Sp.toI no):Nat):Int)/\Hid (Bw w wr)) (fun _ i _=>m - (intOf i).toNat)
   case atStart=>exact ⟨0,Nat.zero_le _,rfl,by simp,HB.out.alloc hsz _⟩
   case round =>
    obtain ⟨j,hj,rfl,rfl,HB2⟩:=hrel;have hsz2:=HB2.out.size;clear c0 c1 c2 c3 c4 c5 c6 c7;obtain ⟨t,ht⟩:=qE ((x.i.ents.take j).countP (Sp.toI no));have HT:Hid _:=ht;have htb:t<=j:=by rw [← ht];exact Nat.le_trans List.countP_le_length (by rw [List.length_take];omega)
    rw [ht];clear ht
    by_cases hlt2:j < m
    ·obtain ⟨⟨s,ck,no2,gn⟩,hej⟩:∃ e,x.i.ents[j]? = some e:=⟨_,List.getElem?_eq_getElem (by rw [HM.out];exact hlt2)⟩;obtain ⟨b2,off2,hep,hb2,h4⟩:=HES.out j _ hej;obtain rfl:ep = some ⟨b2,off2,none⟩:=HEP.out.symm.trans hep;obtain ⟨d0,d1,d2,d3⟩:=h4.below HB2.out hb2;simp only at d0 d1 d2 d3;have hlt2':(j:Int) < (m:Int):=by omega
     have HST:Hid ((x.i.ents.take (j + 1)).countP (Sp.toI no) = t + if no2 = no then 1 else 0):=by
      show _ = _;rw [cntP_step hej,HT.out];simp [Sp.toI]
     clear hej hep h4
     by_cases he:no2 = no
     ·subst he;rw [if_pos rfl] at HST;go_wp2
      go_roundw
      case rel=>exact ⟨j + 1,by omega,by go_num,by rw [HST.out];go_num,HB2.out.alloc hsz2 _⟩
      case measure=>simp [intOf];omega
     ·rw [if_neg he] at HST;go_wp2
      go_roundw
      case rel=>exact ⟨j + 1,by omega,by go_num,by rw [HST.out];rfl,HB2.out.alloc hsz2 _⟩
      case measure=>simp [intOf];omega
    ·obtain rfl:j = m:=by omega
     have HT2:Hid (Sp.nmv (pl (L.take (k + 1))) no = g + t):=by
      show _ = _;rw [Sp.nmv_step HXK.out,HGG.out,← HT.out,List.take_of_length_le (by rw [HM.out];exact Nat.le_refl _)]
     go_wp2
     go_roundw
     case rel=>exact ⟨k + 1,by omega,by go_num,by rw [HT2.out],HB2.out⟩
     case measure=>simp [intOf];omega
  ·obtain rfl:k = n:=by omega
   have HT:Hid (r = g):=by
    show r = g;rw [← HGG.out,List.take_of_length_le (by rw [HN.out];exact Nat.le_refl _),HR.out]
   go_wp2;go_ret;rw [HT.out];exact ⟨rfl,HB.out⟩
namespace Sp
def Rch (L:List Ino):Nat->Nat->Nat->Prop
 | 0,a,c=>a = c
 | d + 1,a,c=>∃ p,Rch L d a p/\p < L.length/\∃ e∈entsAt L p,e.2.2.1 = (c:Int)
def Sound (L:List Ino) (a:Nat) (f:Nat->Bool):Prop:=∀ c,c < L.length->f c = true->∃ d,Rch L d a c
def Full (L:List Ino) (a r:Nat) (f:Nat->Bool):Prop:=∀ d,d<=r->∀ c,c < L.length->Rch L d a c->f c = true
structure Mid (L:List Ino) (a:Nat) (f0 f:Nat->Bool) (k j:Nat):Prop where
 sound:Sound L a f
 mono:∀ c,f0 c = true->f c = true
 past:∀ i,i < k->f0 i = true->∀ e∈entsAt L i,∀ c:Nat,e.2.2.1 = (c:Int)->c < L.length->f c = true
 here:f0 k = true->∀ e∈(entsAt L k).take j,∀ c:Nat,e.2.2.1 = (c:Int)->c < L.length->f c = true
def setB (f:Nat->Bool) (c:Nat) (i:Nat):Bool:=if i = c then true else f i
theorem Mid.start {L:List Ino} {a:Nat} {f:Nat->Bool} (h:Sound L a f):Mid L a f f 0 0:=⟨h,fun _ h=>h,fun i hi=>by omega,fun _ e he=>by simp at he⟩
theorem setB_mono {f:Nat->Bool} {c i:Nat} (h:f i = true):setB f c i = true:=by unfold setB;split;rfl;exact h
theorem Mid.set {L:List Ino} {a:Nat} {f0 f:Nat->Bool} {k j c:Nat} {e:En} (h:Mid L a f0 f k j) (hk:k < L.length) (he:(entsAt L k)[j]? = some e) (hf:f k = true) (hc:e.2.2.1 = (c:Int)):Mid L a f0 (setB f c) k (j + 1):=by
 refine ⟨fun i hi hs=>?_,fun i hi=>setB_mono (h.mono i hi),fun i hi h0 e' he' c' hc' hl=>setB_mono (h.past i hi h0 e' he' c' hc' hl),fun h0 e' he' c' hc' hl=>?_⟩
 ·by_cases hic:i = c
  ·subst hic;obtain ⟨d,hd⟩:=h.sound k hk hf;exact ⟨d + 1,k,hd,hk,e,List.mem_of_getElem? he,hc⟩
  ·unfold setB at hs;rw [if_neg hic] at hs;exact h.sound i hi hs
 ·rw [List.take_add_one,he] at he';rcases List.mem_append.1 he' with he' | he'
  ·exact setB_mono (h.here h0 e' he' c' hc' hl)
  ·simp at he';subst he';unfold setB;rw [if_pos (by omega)]
theorem Mid.skip {L:List Ino} {a:Nat} {f0 f:Nat->Bool} {k j:Nat} {e:En} (h:Mid L a f0 f k j) (he:(entsAt L k)[j]? = some e) (hf:f k = true->0<=e.2.2.1->(L.length:Int)<=e.2.2.1):Mid L a f0 f k (j + 1):=by
 refine ⟨h.sound,h.mono,h.past,fun h0 e' he' c' hc' hl=>?_⟩;rw [List.take_add_one,he] at he';rcases List.mem_append.1 he' with he' | he'
 ·exact h.here h0 e' he' c' hc' hl
 ·simp at he';subst he';have:=hf (h.mono k h0) (by omega);omega
theorem Mid.next {L:List Ino} {a:Nat} {f0 f:Nat->Bool} {k j:Nat} (h:Mid L a f0 f k j) (hj:(entsAt L k).length<=j):Mid L a f0 f (k + 1) 0:=by
 refine ⟨h.sound,h.mono,fun i hi h0 e he c hc hl=>?_,fun _ e he=>by simp at he⟩
 by_cases hik:i = k
 ·subst hik;exact h.here h0 e (by rw [List.take_of_length_le hj];exact he) c hc hl
 ·exact h.past i (by omega) h0 e he c hc hl
theorem Mid.done {L:List Ino} {a r:Nat} {f0 f:Nat->Bool} (h:Mid L a f0 f L.length 0) (hf:Full L a r f0):Full L a (r + 1) f:=by
 intro d hd c hc hr
 by_cases hd':d<=r
 ·exact h.mono c (hf d hd' c hc hr)
 ·have:d = r + 1:=by omega
  subst this;obtain ⟨p,hp,hpl,e,he,hec⟩:=hr;exact h.past p hpl (hf r (Nat.le_refl _) p hpl hp) e he c hec hc
theorem sound_one {L:List Ino} {a:Nat}:Sound L a (setB (fun _=>false) a):=fun c _ hs=>by
 unfold setB at hs;split at hs
 ·rename_i h;exact ⟨0,h.symm⟩
 ·cases hs
theorem full_one {L:List Ino} {a:Nat}:Full L a 0 (setB (fun _=>false) a):=fun d hd c _ hr=>by
 have:d = 0:=by omega
 subst this;have h:a = c:=hr;unfold setB;rw [if_pos h.symm]
end Sp
theorem bools_set {w:World} {b n:Nat} {f:Nat->Bool} (h:w.rowIs b 4 n (fun i=>.bool (f i))) (c:Nat):(w.setCell ⟨b,c,none⟩ (.bool true)).rowIs b 4 n (fun i=>.bool (Sp.setB f c i)) :=
 (h.set c (.bool true)).congr fun i _=>by unfold Sp.setB;split <;> rfl
theorem Tryz.info4:(Tryz.prog.info? 4).map (fun i=>(i.zero,i.size,i.bytes)) = some (some (.bool false),1,1):=by kernel_rfl
theorem reach_any {S : Nat → Prop} (v : Value) (L : List Rw) (no : Nat) (w : World) (hv : TabAt S w v L) (hL : L.length ≤ 1000) (hno : no < L.length) :
  Calls Tryz.prog 88 #[v,.int .i64 no] w fun e w'=>e = .returned (.slice (some ⟨w.heap.size,0,none⟩) L.length L.length)/\Below w.heap.size w w'/\∃ f:Nat->Bool,w'.rowIs w.heap.size 4 L.length (fun i=>.bool (f i))/\Sp.Sound (pl L) no f/\Sp.Full (pl L) no L.length f:=by
 obtain ⟨ao,cap,rfl,-,-⟩:=hv.open;obtain ⟨n,hn⟩:=qE L.length;rw [hn] at hv hL hno ⊢;have HN:Hid _:=hn;have HPL:Hid ((pl L).length = n):=by show _ = _;rw [List.length_map];exact hn
 have HV:Hid _:=hv;clear hn hv;obtain ⟨ti,hti,htz⟩:=Option.map_eq_some_iff.1 Tryz.info4;simp only [Prod.mk.injEq] at htz;obtain ⟨htz,hts,htb⟩:=htz;have htbb:ti.bytes * n<=281474976710656:=by rw [htb];omega
 obtain ⟨b,hb⟩:=qE w.heap.size;obtain ⟨W1,hW1⟩:=qF (w.alloc (.cells (madeCells #[.bool false] n) 4));have HB1:Hid (Below w.heap.size w W1):=by show Below _ _ _;rw [hW1];exact qG _ _
 have HR1:Hid (W1.rowIs b 4 n (fun i=>.bool ((fun _=>false) i))):=by show World.rowIs _ _ _ _ _;rw [hW1,← hb];exact World.rowIs_made w (.bool false) n 4
 have HBB:Hid _:=hb;have hno':(no:Int) < (n:Int):=by omega
 go_enter Tryz.func88,Tryz.ntmps88;have HW1:Hid _:=hW1.symm;clear hW1;have c1:=HR1.out.cell hno;have f1:=HR1.out.frozen no;clear hb
 go_wp2_with (refine wpList_make_row _ rfl (.tmp 12) (.tmp 12) 112 rfl 4 ti (.bool false) rfl hti htz hts rfl .i64 .i64 n rfl rfl htbb (by omega) ?_;rw [HW1.out,HBB.out])
 obtain ⟨W2,hW2⟩:=qF (W1.setCell ⟨b,no,none⟩ (.bool true));have HB2:Hid (Below b w W2):=by show Below _ _ _;rw [hW2,← HBB.out];exact HB1.out.setCell (Nat.le_refl _) _
 have HR2:Hid (W2.rowIs b 4 n (fun i=>.bool (Sp.setB (fun _=>false) no i))):=by show World.rowIs _ _ _ _ _;rw [hW2];exact bools_set HR1.out no
 try rw [← hW2]
 clear c1 f1 hW2 hti htz hts htb htbb;go_loopw [6] (fun i wr=>∃ (r:Nat) (f:Nat->Bool),r<=n/\i = .int .i64 r/\Hid (Sp.Sound (pl L) no f/\Sp.Full (pl L) no r f)/\Hid (wr.rowIs b 4 n (fun i=>.bool (f i)))/\Hid (Below b w wr)) (fun i _=>n - (intOf i).toNat)
 case atStart=>exact ⟨0,_,Nat.zero_le _,rfl,⟨Sp.sound_one,Sp.full_one⟩,HR2.out,HB2.out⟩
 case round =>
  obtain ⟨r,f0,hr,rfl,HF0,HR3,HB3⟩:=hrel
  by_cases hrn:r < n
  ·have hrn' : (r : Int) < (n : Int) := by omega
   go_wp2;go_loopw [25] (fun i wr=>∃ (k:Nat) (f:Nat->Bool),k<=n/\i = .int .i64 k/\Hid (Sp.Mid (pl L) no f0 f k 0)/\Hid (wr.rowIs b 4 n (fun i=>.bool (f i)))/\Hid (Below b w wr)) (fun i _=>n - (intOf i).toNat)
   case atStart=>exact ⟨0,f0,Nat.zero_le _,rfl,Sp.Mid.start HF0.out.1,HR3.out,HB3.out⟩
   case round =>
    obtain ⟨k,f,hk,rfl,HM0,HR4,HB4⟩:=hrel
    by_cases hkn:k < n
    ·obtain ⟨x,hxk⟩:∃ x,L[k]? = some x:=⟨_,List.getElem?_eq_getElem (by rw [HN.out];exact hkn)⟩;obtain ⟨⟨b1,off,rfl,hB,hc⟩,hen,hel,hes⟩:=tab_eight HV.out hxk;have HES:Hid (∀ j e,x.i.ents[j]? = some e->∃ b' off,x.ep = some ⟨b',off,none⟩/\b' < b/\ent4 w b' (off + j * 4) e):=by rw [← HBB.out];exact hes
     have HEA:Hid _:=(ents_at hxk).1;obtain ⟨c0,c1,c2,c3,c4,c5,c6,c7⟩:=hc.below HB4.out (by rw [← HBB.out];exact hB);have hkn':(k:Int) < (n:Int):=by omega
     obtain ⟨m,hm⟩:=qE x.en;obtain ⟨ep,hep⟩:=qE x.ep;have HM:Hid _:=hen.symm.trans hm;have hmb:m<=3518437208883:=by rw [← HM.out];exact hel
     have HEP:Hid _:=hep;rw [hm,hep] at c6;clear hc hxk hes hen hel hm hep;go_wp2;go_loopw [33] (fun i wr=>∃ (j:Nat) (f:Nat->Bool),j<=m/\i = .int .i64 j/\Hid (Sp.Mid (pl L) no f0 f k j)/\Hid (wr.rowIs b 4 n (fun i=>.bool (f i)))/\Hid (Below b w wr)) (fun i _=>m - (intOf i).toNat)
     case atStart=>exact ⟨0,f,Nat.zero_le _,rfl,HM0.out,HR4.out.alloc _,HB4.out.alloc (Nat.le_of_lt HR4.out.lt) _⟩
     case round =>
      obtain ⟨j,f5,hj,rfl,HM5,HR5,HB5⟩:=hrel;have hlt5:=HR5.out.lt;have hsz5:=Nat.le_of_lt hlt5;clear c0 c1 c2 c3 c4 c5 c6 c7
      by_cases hjm:j < m
      ·obtain ⟨⟨s,ck,no2,gn⟩,hej⟩:∃ e,x.i.ents[j]? = some e:=⟨_,List.getElem?_eq_getElem (by rw [HM.out];exact hjm)⟩;obtain ⟨b2,off2,hep,hb2,h4⟩:=HES.out j _ hej;obtain rfl:ep = some ⟨b2,off2,none⟩:=HEP.out.symm.trans hep;obtain ⟨d0,d1,d2,d3⟩:=h4.below HB5.out hb2;simp only at d0 d1 d2 d3;have hjm':(j:Int) < (m:Int):=by omega
       have HEJ:Hid ((Sp.entsAt (pl L) k)[j]? = some (s,ck,no2,gn)):=by rw [HEA.out];exact hej
       have q1:=HR5.out.cell hkn;clear hej hep h4
       by_cases hset:f5 k = true/\0<=no2/\no2 < (n:Int)
       ·obtain ⟨hs1,hs2,hs3⟩:=hset;obtain ⟨c,rfl⟩:∃ c:Nat,no2 = (c:Int):=⟨no2.toNat,by omega⟩;have hcn:c < n:=by omega
        rw [hs1] at q1;have q2:=HR5.out.cell hcn;have q3:=HR5.out.frozen c;have HM6:Hid _:=HM5.out.set (by rw [HPL.out];exact hkn) HEJ.out hs1 rfl;clear hs1;go_wp2
        go_roundw
        case rel=>exact ⟨j + 1,_,by omega,by go_num,HM6.out,by first | exact bools_set (HR5.out.alloc _) c | exact (bools_set HR5.out c).alloc _,by first | exact (HB5.out.alloc hsz5 _).setCell (Nat.le_refl _) _ | exact (HB5.out.setCell (Nat.le_refl _) _).alloc (by simp;exact hsz5) _⟩
        case measure=>simp [intOf];omega
       ·have HM6:Hid _:=HM5.out.skip HEJ.out (fun h1 h2=>by rw [HPL.out];exact Int.not_lt.1 (fun h=>hset ⟨h1,h2,h⟩))
        cases hfk:f5 k with
        | false =>
         rw [hfk] at q1;clear hfk hset;go_wp2
         go_roundw
         case rel=>exact ⟨j + 1,_,by omega,by go_num,HM6.out,HR5.out.alloc _,HB5.out.alloc hsz5 _⟩
         case measure=>simp [intOf];omega
        | true =>
         rw [hfk] at q1
         by_cases hs2:0<=no2
         ·have hs3:¬ no2 < (n:Int):=fun h=>hset ⟨hfk,hs2,h⟩
          clear hfk hset;go_wp2
          go_roundw
          case rel=>exact ⟨j + 1,_,by omega,by go_num,HM6.out,HR5.out.alloc _,HB5.out.alloc hsz5 _⟩
          case measure=>simp [intOf];omega
         ·clear hfk hset;go_wp2
          go_roundw
          case rel=>exact ⟨j + 1,_,by omega,by go_num,HM6.out,HR5.out.alloc _,HB5.out.alloc hsz5 _⟩
          case measure=>simp [intOf];omega
      ·obtain rfl:m = j:=by omega
       have HM6:Hid _:=HM5.out.next (by rw [HEA.out,HM.out];exact Nat.le_refl _);go_wp2
       go_roundw
       case rel=>exact ⟨k + 1,_,by omega,by go_num,HM6.out,HR5.out,HB5.out⟩
       case measure=>simp [intOf];omega
    ·obtain rfl:n = k:=by omega
     have HF6:Hid (Sp.Sound (pl L) no f/\Sp.Full (pl L) no (r + 1) f):=⟨HM0.out.sound,Sp.Mid.done (by rw [HPL.out];exact HM0.out) HF0.out.2⟩;go_wp2
     go_roundw
     case rel=>exact ⟨r + 1,_,by omega,by go_num,HF6.out,HR4.out,HB4.out⟩
     case measure=>simp [intOf];omega
  ·obtain rfl:n = r:=by omega
   go_wp2;go_ret;rw [HBB.out];exact ⟨rfl,HB3.out,f0,HR3.out,HF0.out.1,HF0.out.2⟩
end Go.Proofs.YtneojimodomohaaGreat
namespace Go.Proofs.YtneojimodomohaaGreat
open It
namespace Sp
def num (L:List Ino) (i:Nat) (x:Ino):Prop:=(x.kind = 1->(nmv L i:Int) = x.links)/\(x.kind = 2->0 < i->(nmv L i:Int) = 1)/\(i = 0->(nmv L i:Int) = 0)
def okAt (L:List Ino) (i:Nat) (x:Ino):Prop:=fold x/\(x.kind = 2->∀ e∈x.ents,names L e.2.2.1 e.2.2.2 = true)/\num L i x
def okAll (L:List Ino):Prop:=∀ i x,L[i]? = some x->okAt L i x
theorem nmv_cnt {L:List Ino} (hn:∀ e∈allEnts L,names L e.2.2.1 e.2.2.2 = true) {i:Nat} {x:Ino} (hx:L[i]? = some x):nmv L i = cnt L ((i:Int),x.gen):=by
 unfold nmv cnt;refine List.countP_congr fun e he=>?_
 obtain ⟨j,y,hy,hno,hg,_⟩:=names_iff.1 (hn e he);simp only [toI,beq_iff_eq];constructor
 ·intro h2;have:j = i:=by omega
  subst this;rw [hx] at hy
  cases hy
  exact Prod.ext h2 hg.symm
 ·intro h2;rw [h2]
theorem root_kind {L:List Ino} (h:It.right L = true) {x:Ino} (hx:L[0]? = some x):x.kind = 2:=by
 have hr:=(It.right_iff.1 h).2.1;unfold rootB at hr
 cases L with
 | nil=>cases hr
 | cons y l =>
  simp at hx;subst hx;simp at hr;exact hr
theorem isSp_ok {L:List Ino} (h:isSp L = true):okAll L:=by
 obtain ⟨h1,h2,h3,_⟩:=isSp_iff.1 h;have hn:∀ e∈allEnts L,names L e.2.2.1 e.2.2.2 = true:=fun e he=>(ent_named h1 h3 he).1
 intro i x hx;have hv:=(cntB_iff h1).1 h3 ((i:Int),x.gen);rw [← nmv_cnt hn hx,start_val h1] at hv;have hl:lkOf L (i:Int) = x.links:=by
  unfold lkOf;rw [show ((i:Int)).toNat = i by omega,hx,Option.getD_some]
 have hg0:i = 0->x.gen = gen0 L:=fun h0=>by
  subst h0;unfold gen0;rw [hx,Option.getD_some]
 refine ⟨h2 x (List.mem_of_getElem? hx),fun hk e he=>hn e (List.mem_flatMap.2 ⟨x,List.mem_of_getElem? hx,he⟩),fun hk=>?_,fun hk h0=>?_,fun h0=>?_⟩
 ·rw [if_neg (fun he=>by
   have:(i:Int) = 0:=congrArg Prod.fst he;have hi:i = 0:=by omega
   subst hi;have:=root_kind h1 hx;omega),if_pos (names_iff.2 ⟨i,x,hx,rfl,rfl,by omega⟩),hl] at hv
  exact hv
 ·rw [if_neg (fun he=>by
   have:(i:Int) = 0:=congrArg Prod.fst he;omega),if_pos (names_iff.2 ⟨i,x,hx,rfl,rfl,by omega⟩),hl,dir_links h1 hx hk] at hv
  exact hv
 ·rw [if_pos (by rw [hg0 h0,h0];rfl)] at hv;exact hv
theorem ok_named {L:List Ino} (h:It.right L = true) (ho:okAll L):∀ e∈allEnts L,names L e.2.2.1 e.2.2.2 = true:=fun e he=>by
 obtain ⟨p,x,hx,hex⟩:=all_mem he;exact (ho p x hx).2.1 (ents_dir h hx hex) e hex
theorem ok_folds {L:List Ino} (ho:okAll L):folds L:=fun x hx=>by
 obtain ⟨p,hp⟩:=List.mem_iff_getElem?.1 hx;exact (ho p x hp).1
theorem ok_cntB {L:List Ino} (h:It.right L = true) (ho:okAll L):cntB L = true:=by
 have hn:=ok_named h ho;refine (cntB_iff h).2 fun g=>?_
 rw [start_val h];have hlen:=right_len h;have h0x:L[0]? = some L[0]:=List.getElem?_eq_getElem (by omega)
 by_cases h0:g = (0,gen0 L)
 ·rw [if_pos h0];have h1:=(ho 0 _ h0x).2.2.2.2 rfl;rw [nmv_cnt hn h0x] at h1;have e:gen0 L = L[0].gen:=by unfold gen0;rw [h0x,Option.getD_some]
  rw [h0,e];exact h1
 ·rw [if_neg h0]
  by_cases h1:names L g.1 g.2 = true
  ·rw [if_pos h1];obtain ⟨i,x,hx,hno,hg,hk⟩:=names_iff.1 h1;have eg:g = ((i:Int),x.gen):=Prod.ext hno hg.symm;have hl:lkOf L g.1 = x.links:=by
    unfold lkOf;rw [hno,show ((i:Int)).toNat = i by omega,hx,Option.getD_some]
   rw [hl,eg,← nmv_cnt hn hx];have hnum:=(ho i x hx).2.2;have hone:=(It.right_iff.1 h).2.2 x (List.mem_of_getElem? hx);unfold one at hone;simp only [Bool.and_eq_true] at hone
   by_cases hk2:x.kind = 2
   ·rw [dir_links h hx hk2];refine hnum.2.1 hk2 ?_
    by_cases hi:i = 0
    ·exfalso;subst hi;refine h0 (eg.trans ?_);unfold gen0;rw [hx,Option.getD_some];rfl
    ·omega
   ·refine hnum.1 ?_;rcases At.right_iff.1 hone.2.1 with ⟨h3,_⟩ | ⟨_,_,⟨h3,_⟩ | ⟨h3,_⟩⟩
    ·exact (hk h3).elim
    ·exact h3
    ·exact (hk2 h3).elim
  ·rw [if_neg h1];have:cnt L g = 0:=List.countP_eq_zero.2 fun e he hc=>h1 (by
    have e2:e.2.2 = g:=by simpa using hc
    rw [← e2];exact hn e he)
   rw [this];rfl
theorem rch_anc {L:List Ino} (h:It.right L = true) {a:Nat}:∀ (d c:Nat),Rch L d a c->dirAt L c = true->Anc L d a c
 | 0,c,hr,_=>hr
 | d + 1, c, hr, hd => by
  obtain ⟨p,hp,hpl,e,he,hec⟩:=hr;have hx:L[p]? = some L[p]:=List.getElem?_eq_getElem hpl;have hem:e∈L[p].ents:=by
   unfold entsAt at he;rw [hx] at he;exact he
  have hdp:dirAt L p = true:=by
   unfold dirAt;rw [hx];simp [ents_dir h hx hem]
  exact ⟨p,rch_anc h d p hp hdp,⟨e,he,by simp [toNo,hec]⟩,hd⟩
theorem ents_lt {L:List Ino} {p:Nat} {e:En} (he:e∈entsAt L p):p < L.length:=by
 unfold entsAt at he;split at he
 ·rename_i x hx
  exact (qM hx)
 ·cases he
theorem anc_rch {L:List Ino} {a:Nat}:∀ (d c:Nat),Anc L d a c->Rch L d a c
 | 0,c,h=>h
 | d + 1,c,h=>by
  obtain ⟨p,hp,⟨e,he,hc⟩,_⟩:=h;exact ⟨p,anc_rch d p hp,ents_lt he,e,he,by simpa [toNo] using hc⟩
theorem full_reach {L:List Ino} (h:It.right L = true) (ht:Tree L) {f:Nat->Bool} (hs:Sound L 0 f) (hf:Full L 0 L.length f):reachB L = true ↔ ∀ c,dirAt L c = true->f c = true:=by
 rw [reachB_iff ht (right_len h).2];constructor
 ·intro hr c hd;obtain ⟨d,ha⟩:=hr c hd;exact hf d (Nat.le_of_lt (anc_lt ht ha)) c (dirAt_lt hd) (anc_rch d c ha)
 ·intro hr c hd;obtain ⟨d,ha⟩:=hs c (dirAt_lt hd) (hr c hd);exact ⟨d,rch_anc h d c ha hd⟩
theorem isSp_of {L:List Ino} (h:It.right L = true) (ho:okAll L) {f:Nat->Bool} (hs:Sound L 0 f) (hf:Full L 0 L.length f):isSp L = true ↔ ∀ c,dirAt L c = true->f c = true:=by
 rw [isSp_iff,← full_reach h (tree_of h (ok_folds ho) (ok_cntB h ho)) hs hf];exact ⟨fun h=>h.2.2.2,fun hr=>⟨h,ok_folds ho,ok_cntB h ho,hr⟩⟩
theorem isSp_not {L:List Ino} (h:¬ okAll L):isSp L = false:=by
 cases hs:isSp L with
 | false=>rfl
 | true=>exact (h (isSp_ok hs)).elim
end Sp
end Go.Proofs.YtneojimodomohaaGreat
