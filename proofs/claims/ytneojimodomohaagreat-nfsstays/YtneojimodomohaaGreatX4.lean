/- Sta1, BPlain, BBase, BEnd, NOr0, NOrp, Same, OLeaving, ORef, OSame, NSm, Law, NOpD, as one. -/
import Derived.Test.YtneojimodomohaaGreatX3
set_option maxHeartbeats 8000000
set_option maxRecDepth 100000
namespace Go.Proofs.YtneojimodomohaaGreat
open It
namespace Sp
theorem st_nonneg {L:List Ino} {st:Int} (h:top L<=st/\st<=1099511627776):0<=st/\st<=1099511627776:=⟨Int.le_trans (top_nonneg _) h.1,h.2⟩
theorem count_snoc {l:List En} {e:En} {k:Nat} (h:e.2.2.1 = k) (i:Int):((l ++ [e]).countP (toI i):Int) = l.countP (toI i) + (if i = k then 1 else 0):=by
 rw [List.countP_append,List.countP_cons,List.countP_nil]
 by_cases hi:i = k
 ·rw [if_pos hi,if_pos (by simp [toI,h,hi])];omega
 ·rw [if_neg hi,if_neg (by simp [toI,h];omega)];omega
theorem count_cut {l:List En} {j:Nat} {e:En} {k:Nat} (hj:l[j]? = some e) (h:e.2.2.1 = k) (i:Int):((l.eraseIdx j).countP (toI i):Int) = l.countP (toI i) + (if i = k then -1 else 0):=by
 have c:=cerase (toI i) l j e hj
 by_cases hi:i = k
 ·rw [if_pos (by simp [toI,h,hi])] at c;rw [if_pos hi];omega
 ·rw [if_neg (by simp [toI,h];omega)] at c;rw [if_neg hi];omega
theorem cut_sup {l:List En} {j:Nat} {e:En} {k:Nat} (hj:l[j]? = some e) (h:e.2.2.1 = k):∀ x∈l,x∈l.eraseIdx j∨x.2.2.1 = k:=fun x hx=>by
 rcases erase_sup hj x hx with h1 | h1
 ·exact .inl h1
 ·exact .inr (by rw [h1];exact h)
theorem add_right {l:List Ent} {nx:Int} {s:ByteArray} {no g:Int} (h:Fo.addErr l nx s no g = 0):Fo.Right (l ++ [(s,nx + 1,no,g)]) (nx + 1):=by
 obtain ⟨hR,hok,hHo,hat,hnx⟩:=Fo.add_zero h;exact Fo.right_add hR hok hHo hat (by have:=hR.1.2;omega)
theorem link_stays {L:List Ino} {a b c d st:Int} {s:ByteArray} (h:linkE (chk isSp) L a b c d s st = 0):isSp (linkT (chk isSp) L a b c d s st) = true:=by
 unfold linkT;rw [if_pos h];unfold linkE at h
 by_cases hl:linkErr (chk isSp) L a b c d s st = 0
 ·rw [if_pos hl] at h;obtain ⟨⟨hc0,hst⟩,hfa,hka,hla,hdc⟩:=linkErr_zero hl;obtain ⟨-,-,hlen,-⟩:=isSp_means _ hc0;have hs:=chk_zero hc0;obtain ⟨ka,xa,ha,hxa,hga,hka0,hia,hr⟩:=find_get hfa;obtain ⟨kc,xc,hc,hxc,hgc,hkc,hec,hnc,hfc,-⟩:=dir_get hdc;have hic:=find_same hfc hc hxc;rw [hec,hnc] at h;rw [hia] at hka hla;have hatt:=At.right_iff.1 (attr_of hr (List.mem_of_getElem? hxa));unfold At.rightP at hatt;have hk1:xa.kind = 1:=by omega
  have hlc:=hlen xc (List.mem_of_getElem? hxc);rw [hia,hic,ha,hc,show ((ka:Int)).toNat = ka by omega,show ((kc:Int)).toNat = kc by omega];rw [ha] at h;refine stays_file hs hxc hkc hxa hk1 (st_nonneg hst) (add_right h) (by rw [List.length_append,List.length_singleton];omega) ⟨by omega,by omega⟩ (count_snoc rfl) (fun e he=>?_) (fun e he=>.inl (List.mem_append_left _ he));rcases List.mem_append.1 he with h1 | h1
  ·exact .inl h1
  ·exact .inr (by rw [List.mem_singleton.1 h1,← hga])
 ·rw [if_neg hl] at h;exact absurd h hl
theorem unlink_stays {L:List Ino} {a b st:Int} {s:ByteArray} (h:ulE (chk isSp) L a b s st = 0):isSp (ulT (chk isSp) L a b s st) = true:=by
 unfold ulT;rw [if_pos h];unfold ulE at h
 by_cases hl:toErr (chk isSp) L st a b s = 0
 ·rw [if_pos hl] at h;obtain ⟨kc,xc,j,e,kt,xt,ha,hxc,hgc,hkc,hfc,hff,hp,hj,hH,hek,hk0,hxt,hgt,hkt0,hlt,hft,hit,hic,hr,hst,hlc⟩:=to_zero isSp_means hl;have hs:isSp L = true:=by
   unfold toErr at hl
   by_cases h2:stErr (chk isSp) L st = 0
   ·exact chk_zero (stErr_zero h2).1
   ·rw [if_neg h2] at hl;exact absurd hl h2
  rw [hH,hit] at h;rw [hH,hit];have hk2:xt.kind≠2:=fun h2=>by
   rw [if_pos h2] at h;exact absurd h (by decide)
  have hatt:=At.right_iff.1 (attr_of hr (List.mem_of_getElem? hxt));unfold At.rightP at hatt;have hk1:xt.kind = 1:=by omega
  unfold lessDir;rw [hic,hp,ha,hek,show ((kc:Int)).toNat = kc by omega,show ((j:Int)).toNat = j by omega,show ((kt:Int)).toNat = kt by omega];have hR:=((isSp_ok hs kc xc hxc).1 hkc).1;exact stays_file hs hxc hkc hxt hk1 (st_nonneg hst) (Fo.right_cut hR j) (Nat.le_trans (List.length_eraseIdx_le ..) (by omega)) ⟨by omega,by omega⟩ (count_cut hj hek) (fun e he=>.inl (List.mem_of_mem_eraseIdx he)) (cut_sup hj hek)
 ·rw [if_neg hl] at h;exact absurd h hl
theorem rmdir_stays {L:List Ino} {a b st:Int} {s:ByteArray} (h:rmE (chk isSp) L a b s st = 0):isSp (rmT (chk isSp) L a b s st) = true:=by
 unfold rmT;rw [if_pos h];unfold rmE at h
 by_cases hl:toErr (chk isSp) L st a b s = 0
 ·rw [if_pos hl] at h;obtain ⟨kc,xc,j,e,kt,xt,ha,hxc,hgc,hkc,hfc,hff,hp,hj,hH,hek,hk0,hxt,hgt,hkt0,hlt,hft,hit,hic,hr,hst,hlc⟩:=to_zero isSp_means hl;have hs:isSp L = true:=by
   unfold toErr at hl
   by_cases h2:stErr (chk isSp) L st = 0
   ·exact chk_zero (stErr_zero h2).1
   ·rw [if_neg h2] at hl;exact absurd hl h2
  rw [hH,hit] at h;rw [hH]
  by_cases hk2:xt.kind = 2
  ·rw [if_pos hk2] at h
   by_cases hen:xt.ents = []
   ·unfold lessDir;rw [hic,hp,ha,hek,← hgt,show ((kc:Int)).toNat = kc by omega,show ((j:Int)).toNat = j by omega,show ((kt:Int)).toNat = kt by omega];have hR:=((isSp_ok hs kc xc hxc).1 hkc).1;have hne:kc≠kt:=by
     rintro rfl;rw [hxc] at hxt
     cases hxt
     rw [hen] at hj;simp at hj
    exact stays_rm hs hxc hkc hxt hk2 hen hk0 hne (st_nonneg hst) (Fo.right_cut hR j) (Nat.le_trans (List.length_eraseIdx_le ..) (by omega)) (count_cut hj hek) (fun e he=>List.mem_of_mem_eraseIdx he) (cut_sup hj hek)
   ·rw [if_neg hen] at h;exact absurd h (by decide)
  ·rw [if_neg hk2] at h;exact absurd h (by decide)
 ·rw [if_neg hl] at h;exact absurd h hl
theorem make_stays {L:List Ino} {a b kind st:Int} {s:ByteArray} (h:mkE (chk isSp) L a b s kind st = 0):isSp (mkT (chk isSp) L a b s kind st) = true:=by
 unfold mkT;rw [if_pos h];unfold mkE at h
 by_cases hl:makeErr (chk isSp) L a b s kind st = 0
 ·rw [if_pos hl] at h;obtain ⟨⟨hc0,hst⟩,hkind,hdc⟩:=makeErr_zero hl
  by_cases hm:It.makeErr L kind st = 0
  ·rw [if_pos hm] at h;obtain ⟨-,-,hlen,-⟩:=isSp_means _ hc0;have hs:=chk_zero hc0;obtain ⟨hr,-,hn24,e1,e2⟩:=make_next hm;obtain ⟨hk1,-⟩:=make_keep hm;obtain ⟨kc,xc,hc,hxc,hgc,hkc,hec,hnc,hfc,-⟩:=dir_get hdc;have hic:=find_same hfc hc hxc;obtain ⟨hn1,-⟩:=next_good hr;have hlc:=hlen xc (List.mem_of_getElem? hxc);have hnn:∃ nn:Nat,(next L).1 = nn/\((∃ x0,L[nn]? = some x0/\x0.kind = 0)∨nn = L.length):=by
    rcases next_cases L with ⟨j,y,hy,hyk,-,e⟩ | e
    ·exact ⟨j,by rw [e],.inl ⟨y,hy,hyk⟩⟩
    ·exact ⟨L.length,by rw [e],.inr rfl⟩
   obtain ⟨nn,hnn1,hnn2⟩:=hnn;rw [hec,hnc,e2] at h;rw [e1] at hk1 ⊢;rw [hic,e2,hc];rw [hnn1,show ((nn:Int)).toNat = nn by omega] at hk1;rw [hnn1,show ((nn:Int)).toNat = nn by omega,show ((kc:Int)).toNat = kc by omega];rw [hnn1] at h;exact stays_mk hs hxc hkc hkind hnn2 (by omega) hk1 (st_nonneg hst) (add_right h) (by rw [List.length_append,List.length_singleton];omega) rfl rfl
  ·rw [if_neg hm] at h;exact absurd h hm
 ·rw [if_neg hl] at h;exact absurd h hl
theorem rename_stays {L:List Ino} {a b c d st:Int} {s s2:ByteArray} (h:rnE (chk isSp) insB L a b s c d s2 st = 0):isSp (rnT (chk isSp) insB L a b s c d s2 st) = true:=by
 unfold rnT;rw [if_pos h];unfold rnE at h
 by_cases hl:toErr (chk isSp) L st a b s = 0
 ·rw [if_pos hl] at h;obtain ⟨kc,xc,j,e,kt,xt,ha,hxc,hgc,hkc,hfc,hff,hp,hj,hH,hek,hk0,hxt,hgt,hkt0,hlt,hft,hit,hic,hr,hst,hlc⟩:=to_zero isSp_means hl;have hs0:chk isSp L = 0:=by
   unfold toErr at hl
   by_cases h2:stErr (chk isSp) L st = 0
   ·exact (stErr_zero h2).1
   ·rw [if_neg h2] at hl;exact absurd hl h2
  have hs:=chk_zero hs0;obtain ⟨-,-,hlen,-⟩:=isSp_means _ hs0;rw [hH] at h;rw [hH]
  by_cases hm:moveErr insB L e.2.2.1 c d s2 = 0
  ·rw [if_pos hm] at h;have hdd:=moveErr_zero hm;obtain ⟨kd,xd,hd,hxd,hgd,hkd,-,-,hfd,-⟩:=dir_get hdd;have hin:dirAt L kt = true->¬ ∃ d,Anc L d kt kd:=fun hdt hex=>by
    have hi:=(insB_iff hs hdt).2 hex;unfold moveErr at hm
    by_cases hq:(nameErr L c d s2 = 0∨nameErr L c d s2 = 403)/\insB L e.2.2.1 c = true
    ·rw [if_pos hq] at hm;exact absurd hm (by decide)
    ·rw [if_neg hq] at hm;exact hq ⟨.inl hm,by rw [hek,hd];exact hi⟩
   have hR:=((isSp_ok hs kc xc hxc).1 hkc).1;have hcut:=Fo.right_cut hR j;have hlcut:(xc.ents.eraseIdx j).length<=1536:=Nat.le_trans (List.length_eraseIdx_le ..) hlc;have eL:lessDir L a b s st = L.set kc (filled xc (xc.ents.eraseIdx j) xc.next st):=by
    unfold lessDir;rw [hic,hp,ha,show ((kc:Int)).toNat = kc by omega,show ((j:Int)).toNat = j by omega]
   have r1:It.right (L.set kc (filled xc (xc.ents.eraseIdx j) xc.next st)) = true:=right_set hr hxc (one_filled ((It.right_iff.1 hr).2.2 xc (List.mem_of_getElem? hxc)) hkc (st_nonneg hst) (by omega) (nx:=xc.next)) rfl;obtain ⟨x1,hx1,hg1,hk1,hl1,hsub,-⟩:=mid hxc hkc hlcut (fun e he=>List.mem_of_mem_eraseIdx he) hst hxd hkd (hlen xd (List.mem_of_getElem? hxd)) r1;have eM:midI L a b s st c = x1:=by
    unfold midI;rw [eL,hd,show ((kd:Int)).toNat = kd by omega,hx1];rfl
   rw [eM] at h;rw [eM,eL,hd,show ((kd:Int)).toNat = kd by omega];have hnt:names L e.2.2.1 e.2.2.2 = true:=ok_named hr (isSp_ok hs) e (all_of hxc (List.mem_of_getElem? hj));exact stays_rn (e2:=(s2,x1.next + 1,e.2.2.1,e.2.2.2)) hs hxc hkc hx1 hk1 (st_nonneg hst) hcut (by omega) (add_right h) (by rw [List.length_append,List.length_singleton];omega) rfl hek hnt (count_cut hj hek) (fun e he=>List.mem_of_mem_eraseIdx he) (cut_sup hj hek) hin
  ·rw [if_neg hm] at h;exact absurd h hm
 ·rw [if_neg hl] at h;exact absurd h hl
end Sp
end Go.Proofs.YtneojimodomohaaGreat
namespace Go.Proofs.YtneojimodomohaaGreat.Bs
namespace Bl
theorem right_total {l:List R}:∀ {a:Int},right a l->a<=MAX->(total l:Int) + l.length<=MAX - a:=by
  induction l with
  | nil=>intro a _ ha;simp [total];omega
  | cons s l ih =>
    intro a h ha;have h1:=h.1;have:=ih h.2 (by unfold rend;omega);simp only [total,List.map_cons,List.sum_cons,List.length_cons] at this ⊢;unfold rend at *;omega
end Bl
end Go.Proofs.YtneojimodomohaaGreat.Bs
namespace Go.Proofs.YtneojimodomohaaGreat.Bs
open Go.ChangeShapes Go.WideShapes Go.ChangeAt Go.RowKit Go.Deep
theorem laidOut:laidOutB Tryz.prog = true:=by kernel_rfl
theorem own:ownKnob Tryz.prog.godebug = none:=by kernel_rfl
namespace Bl
theorem lastEnd_within (a b:Int) (l:List R) (hb:0<=b):lastEnd 0 (within a b l)<=b:=by
  rcases snoc_cases (within a b l) with h | ⟨m,s,h⟩
  · rw [h];exact hb
  · rw [h, lastEnd_append]
    show rend s<=b;exact (within_mem s (by rw [h];simp)).2.1
end Bl
end Go.Proofs.YtneojimodomohaaGreat.Bs
namespace Go.Proofs.YtneojimodomohaaGreat
open It
namespace Nf
theorem oname {c:UInt8} (h:c≠46/\c≠47/\c≠0):Nm.ok ⟨#[c]⟩:=by
 refine ⟨by simp [ByteArray.size],by simp [ByteArray.size],fun e=>?_,fun e=>?_,?_⟩
 ·have:#[c] = #[46]:=congrArg ByteArray.data e;simp at this;exact h.1 this
 ·have:#[c] = #[46,46]:=congrArg ByteArray.data e;simp at this
 ·intro i hi _;have h0:i = 0:=by
   have:i < 1:=hi;omega
  subst h0;show c.toNat≠47/\c.toNat≠0;exact ⟨fun e=>h.2.1 (UInt8.toNat_inj.1 e),fun e=>h.2.2 (UInt8.toNat_inj.1 e)⟩
theorem dir_none {nx:Int} (h:0<=nx/\nx<=1099511627776):Fo.Right [] nx:=⟨h,fun i hi=>by simp at hi,by simp [Fo.apart]⟩
theorem dir_one {s:ByteArray} {no:Int} (hs:Nm.ok s) (hn:0<=no/\no<=23):Fo.Right [(s,1,no,1)] 1:=by
 refine ⟨by omega,fun i hi=>?_,by simp [Fo.apart]⟩;have:i = 0:=by simp at hi;exact hi
 subst this;intro x hx;simp at hx;subst hx;exact ⟨hs,by simp [Fo.lastC],hn,by show (1:Int)<=1;decide,by show (1:Int)<=1099511627776;decide⟩
theorem st_fine {L:List Ino} {st:Int} (h:Sp.isSp L = true) (ht:Sp.top L<=st/\st<=1099511627776):Sp.stErr (Sp.chk Sp.isSp) L st = 0:=by
 unfold Sp.stErr Sp.chk;rw [if_pos h,if_pos rfl,if_pos ht]
theorem free_name {L:List Ino} {a b nx:Int} {s:ByteArray} {es:List Ent} (hd:Sp.dirErr L a b = 0) (he:Sp.dirEnts L a b = es) (hn:Sp.dirNext L a b = nx) (hr:Fo.Right es nx) (hs:Nm.ok s) (ha:Fo.at' (Fo.called s) es = -1):Sp.nameErr L a b s = 0/\∀ no gen,Ho no gen->nx≠1099511627776->Fo.addErr es nx s no gen = 0:=by
 have hk:Fo.ask es nx s = 0:=by rw [Fo.ask_right (Fo.err_ok hr),Nm.err_ok hs]
 have hf:=(Fo.findErr_miss hk ha).1;have hl:Sp.lookErr L a b s = 402:=by unfold Sp.lookErr;rw [if_pos hd,he,hn,hf]
 refine ⟨by unfold Sp.nameErr;rw [hl];rfl,fun no gen ho hm=>Fo.add_ok hk ho ha hm⟩
theorem hit_name {L:List Ino} {a b nx:Int} {s:ByteArray} {es:List Ent} {k:Nat} {x:Ent} (hd:Sp.dirErr L a b = 0) (he:Sp.dirEnts L a b = es) (hn:Sp.dirNext L a b = nx) (hr:Fo.Right es nx) (hs:Nm.ok s) (ha:Fo.at' (Fo.called s) es = k) (hx:es[k]? = some x):Sp.lookErr L a b s = 0/\Sp.lookH L a b s = x.2.2/\Fo.plc es nx s = k:=by
 have hk:Fo.ask es nx s = 0:=by rw [Fo.ask_right (Fo.err_ok hr),Nm.err_ok hs]
 have hf:Fo.findErr es nx s = 0:=by unfold Fo.findErr;rw [if_pos hk,if_neg (by rw [ha];omega)]
 have hp:Fo.plc es nx s = k:=by unfold Fo.plc;rw [if_pos hf,ha]
 refine ⟨by unfold Sp.lookErr;rw [if_pos hd,he,hn,hf],?_,hp⟩;unfold Sp.lookH;rw [if_pos hd,he,hn,Fo.found_hit hf hp hx]
theorem at_first {s t:ByteArray} {c no g:Int} (h:s = t):Fo.at' (Fo.called s) [(t,c,no,g)] = (0:Nat):=Fo.at_hit (x:=(t,c,no,g)) rfl (by subst h;simp [Fo.called]) (fun j y hj=>by omega)
theorem right_mk {L:List Ino} {O:List Os.Opn} {dn:Int} (h:Sp.isSp L = true) (h2:(Os.Op.right 0 O && (filesOk L O && (decide (allBytes L<=8192) && doneOk L dn))) = true):right L O dn = true:=by
 unfold right;rw [h,h2];rfl
theorem ref_fine {L:List Ino} {O:List Os.Opn} {dn cl:Int} (h:right L O dn = true) (hd:dn≠1099511627776) (hc:0<=cl/\cl<=1099511627776):refE L O dn cl = 0:=by
 unfold refE;rw [if_pos h,if_neg hd,if_pos hc]
theorem do_fine {L:List Ino} {O:List Os.Opn} {dn cl:Int} {c:Cal} (h:refE L O dn cl = 0) (hc:Ks.Ak.right c = true):doR L O dn cl c = rep L O (dn + 1) cl c/\doT L O dn cl c = tab L O (dn + 1) cl c/\doO L O dn cl c = ops L O cl c/\doD L O dn cl = dn + 1:=by
 unfold doR doT doO doD;rw [if_pos h,if_pos h,if_pos h,if_pos h,if_pos hc,if_pos hc,if_pos hc];exact ⟨rfl,rfl,rfl,rfl⟩
abbrev xA:ByteArray:=⟨#[97]⟩
abbrev xX:ByteArray:=⟨#[120]⟩
abbrev e0:ByteArray:=⟨#[]⟩
theorem okA:Nm.ok xA:=oname (by decide)
def F1:List Ino:=[⟨1,2,1,1,1,[],[(xA,1,1,1)],1⟩,⟨1,1,1,0,1,[],[],0⟩]
def F3:List Ino:=[⟨1,2,1,0,3,[],[],1⟩,⟨1,1,0,0,3,[],[],0⟩]
def F4:List Ino:=[⟨1,2,1,0,3,[],[],1⟩,⟨1,1,0,1,4,[(0,xX)],[],0⟩]
def F5:List Ino:=[⟨1,2,1,0,3,[],[],1⟩,⟨1,0,0,0,0,[],[],0⟩]
abbrev O1:List Os.Opn:=[(0,5,1,1)]
abbrev c1:Cal:=⟨3,0,1,0,0,xA,e0,0,0,e0⟩
abbrev c2:Cal:=⟨13,1,1,0,0,e0,e0,0,0,e0⟩
abbrev c3:Cal:=⟨9,0,1,0,0,xA,e0,0,0,e0⟩
abbrev c4:Cal:=⟨6,1,1,0,0,e0,e0,0,0,xX⟩
abbrev c5:Cal:=⟨14,0,0,0,0,e0,e0,0,0,e0⟩
abbrev c6:Cal:=⟨5,1,1,0,0,e0,e0,0,1,e0⟩
theorem folds_new:Sp.folds new:=fun x hx=>by
 simp [new,fresh] at hx;subst hx;exact fun _=>⟨dir_none (by decide),rfl⟩
theorem isSp_new:Sp.isSp new = true:=Sp.isSp_iff.2 ⟨by decide,folds_new,by decide,by decide⟩
theorem folds_F1:Sp.folds F1:=fun x hx=>by
 simp [F1] at hx;rcases hx with rfl | rfl
 ·exact fun _=>⟨dir_one okA (by decide),rfl⟩
 ·intro h
  cases h
theorem isSp_F1:Sp.isSp F1 = true:=Sp.isSp_iff.2 ⟨by decide,folds_F1,by decide,by decide⟩
theorem folds_F3:Sp.folds F3:=fun x hx=>by
 simp [F3] at hx;rcases hx with rfl | rfl
 ·exact fun _=>⟨dir_none (by decide),rfl⟩
 ·intro h
  cases h
theorem isSp_F3:Sp.isSp F3 = true:=Sp.isSp_iff.2 ⟨by decide,folds_F3,by decide,by decide⟩
theorem folds_F4:Sp.folds F4:=fun x hx=>by
 simp [F4] at hx;rcases hx with rfl | rfl
 ·exact fun _=>⟨dir_none (by decide),rfl⟩
 ·intro h
  cases h
theorem isSp_F4:Sp.isSp F4 = true:=Sp.isSp_iff.2 ⟨by decide,folds_F4,by decide,by decide⟩
theorem folds_F5:Sp.folds F5:=fun x hx=>by
 simp [F5] at hx;rcases hx with rfl | rfl
 ·exact fun _=>⟨dir_none (by decide),rfl⟩
 ·intro h
  cases h
theorem isSp_F5:Sp.isSp F5 = true:=Sp.isSp_iff.2 ⟨by decide,folds_F5,by decide,by decide⟩
theorem right_new:right new [] 0 = true:=right_mk isSp_new (by decide +kernel)
theorem right_1:right F1 [] 1 = true:=right_mk isSp_F1 (by decide +kernel)
theorem right_2:right F1 O1 2 = true:=right_mk isSp_F1 (by decide +kernel)
theorem right_3:right F3 O1 3 = true:=right_mk isSp_F3 (by decide +kernel)
theorem right_4:right F4 O1 4 = true:=right_mk isSp_F4 (by decide +kernel)
theorem right_5:right F5 [] 5 = true:=right_mk isSp_F5 (by decide +kernel)
theorem mk_1:Sp.mkE (Sp.chk Sp.isSp) new 0 1 xA 1 1 = 0/\Sp.mkT (Sp.chk Sp.isSp) new 0 1 xA 1 1 = F1/\Sp.mkH (Sp.chk Sp.isSp) new 0 1 xA 1 1 = (1,1):=by
 obtain ⟨h1,h2⟩:=free_name (L:=new) (a:=0) (b:=1) (s:=xA) (es:=[]) (nx:=0) (by decide) (by decide) (by decide) (dir_none (by decide)) okA (by decide);have h3:Sp.makeErr (Sp.chk Sp.isSp) new 0 1 xA 1 1 = 0:=by unfold Sp.makeErr;rw [if_pos (st_fine isSp_new (by decide)),if_pos (by decide),h1]
 have h4:It.makeErr new 1 1 = 0:=by decide
 have h5:makeH new 1 1 = (1,1):=by decide
 have hE:Sp.mkE (Sp.chk Sp.isSp) new 0 1 xA 1 1 = 0:=by
  unfold Sp.mkE;rw [if_pos h3,if_pos h4,h5,show Sp.dirEnts new 0 1 = [] from by decide,show Sp.dirNext new 0 1 = 0 from by decide];exact h2 1 1 (by decide) (by decide)
 refine ⟨hE,?_,by unfold Sp.mkH;rw [if_pos hE,h5]⟩;unfold Sp.mkT;rw [if_pos hE,h5];rfl
theorem step1:doR new [] 0 5 c1 = ⟨0,1,1,1,1,0,1,e0,[],0⟩/\doT new [] 0 5 c1 = F1/\doO new [] 0 5 c1 = []/\doD new [] 0 5 = 1:=by
 obtain ⟨h1,h2,h3,h4⟩:=do_fine (c:=c1) (ref_fine (cl:=5) right_new (by decide) (by decide)) (by decide);obtain ⟨m1,m2,m3⟩:=mk_1;refine ⟨?_,?_,?_,h4⟩
 ·rw [h1,show rep new [] (0 + 1) 5 c1 = makeP new c1 1 1 from by simp [rep]];unfold makeP told;rw [m1,m2,m3,if_pos rfl];rfl
 ·rw [h2,show tab new [] (0 + 1) 5 c1 = makeT new c1 1 1 from by simp [tab]];unfold makeT;rw [m1,m2,if_pos rfl]
 ·rw [h3];simp [ops]
theorem step2:doR F1 [] 1 5 c2 = ⟨0,0,0,0,0,0,0,e0,[],0⟩/\doT F1 [] 1 5 c2 = F1/\doO F1 [] 1 5 c2 = O1/\doD F1 [] 1 5 = 2:=by
 obtain ⟨h1,h2,h3,h4⟩:=do_fine (c:=c2) (ref_fine (cl:=5) right_1 (by decide) (by decide)) (by decide);have ho:opE F1 [] 5 c2 = 0:=by decide
 refine ⟨?_,?_,?_,h4⟩
 ·rw [h1,show rep F1 [] (1 + 1) 5 c2 = openP F1 [] 5 c2 from by simp [rep]];unfold openP opN;rw [ho,if_pos rfl];rfl
 ·rw [h2];simp [tab]
 ·rw [h3,show ops F1 [] 5 c2 = (if opE F1 [] 5 c2 = 0 then Os.Op.opened [] 5 1 1 else []) from by simp [ops],if_pos ho]
  decide
theorem ul_3:Sp.ulE (Sp.chk Sp.isSp) F1 0 1 xA 3 = 0/\Sp.ulT (Sp.chk Sp.isSp) F1 0 1 xA 3 = F3/\Sp.ulH (Sp.chk Sp.isSp) F1 0 1 xA 3 = (1,1):=by
 obtain ⟨h1,h2,h3⟩:=hit_name (L:=F1) (a:=0) (b:=1) (s:=xA) (es:=[(xA,1,1,1)]) (nx:=1) (k:=0) (x:=(xA,1,1,1)) (by decide) (by rfl) (by decide) (dir_one okA (by decide)) okA (at_first rfl) rfl;have hs:=st_fine (st:=3) isSp_F1 (by decide);have ht:Sp.toErr (Sp.chk Sp.isSp) F1 3 0 1 xA = 0:=by unfold Sp.toErr;rw [if_pos hs,h1]
 have hh:Sp.toH (Sp.chk Sp.isSp) F1 3 0 1 xA = (1,1):=by unfold Sp.toH;rw [if_pos hs,h2]
 have hE:Sp.ulE (Sp.chk Sp.isSp) F1 0 1 xA 3 = 0:=by
  unfold Sp.ulE;rw [if_pos ht,hh];rfl
 refine ⟨hE,?_,by unfold Sp.ulH;rw [if_pos hE,hh]⟩;unfold Sp.ulT;rw [if_pos hE,hh];unfold Sp.lessDir;rw [show findI F1 0 1 = ⟨1,2,1,1,1,[],[(xA,1,1,1)],1⟩ from by rfl];dsimp only;rw [h3];rfl
theorem step3:doR F1 O1 2 5 c3 = bad 0/\doT F1 O1 2 5 c3 = F3/\doO F1 O1 2 5 c3 = O1/\doD F1 O1 2 5 = 3:=by
 obtain ⟨h1,h2,h3,h4⟩:=do_fine (c:=c3) (ref_fine (cl:=5) right_2 (by decide) (by decide)) (by decide);obtain ⟨m1,m2,m3⟩:=ul_3;have hn:needB F3 O1 (1,1) = true:=by decide
 refine ⟨?_,?_,?_,h4⟩
 ·rw [h1,show rep F1 O1 (2 + 1) 5 c3 = bad (unE F1 O1 0 1 xA 3) from by simp [rep]];unfold unE reE;rw [if_pos m1,m2,m3,if_pos hn]
 ·rw [h2,show tab F1 O1 (2 + 1) 5 c3 = unT F1 O1 0 1 xA 3 from by simp [tab]];unfold unT reT;rw [if_pos m1,m2,m3,if_pos hn]
 ·rw [h3];simp [ops]
theorem step4:doR F3 O1 3 5 c4 = ⟨0,0,0,1,0,1,4,e0,[],0⟩/\doT F3 O1 3 5 c4 = F4/\doO F3 O1 3 5 c4 = O1/\doD F3 O1 3 5 = 4:=by
 obtain ⟨h1,h2,h3,h4⟩:=do_fine (c:=c4) (ref_fine (cl:=5) right_3 (by decide) (by decide)) (by decide);have hf:fndE F3 1 1 1 405 = 0:=by decide
 have hi:findI F3 1 1 = ⟨1,1,0,0,3,[],[],0⟩:=by rfl
 have hw:Bs.Bl.wErr [] 0 xX = 0:=by decide
 have hx:wrX ⟨1,1,0,0,3,[],[],0⟩ c4 4 = ⟨1,1,0,1,4,[(0,xX)],[],0⟩:=by
  unfold wrX wrN wrO;rfl
 have hr:¬ 8192 < room F3 ⟨1,1,0,0,3,[],[],0⟩ c4:=by decide +kernel
 have hp:putErr F3 1 1 ⟨1,1,0,1,4,[(0,xX)],[],0⟩ = 0:=by decide
 refine ⟨?_,?_,?_,h4⟩
 ·rw [h1,show rep F3 O1 (3 + 1) 5 c4 = wrP F3 c4 4 from by simp [rep]];unfold wrP;rw [hi,hx,hp,if_neg (by rw [hf];decide),if_neg (by decide),if_neg (by rw [hw];decide),if_neg (by decide),if_neg hr]
 ·rw [h2,show tab F3 O1 (3 + 1) 5 c4 = wrT F3 c4 4 from by simp [tab]];unfold wrT ptT;rw [hi,hx,if_neg (by rw [hf];decide),if_neg (by decide),if_neg (by rw [hw];decide),if_neg (by decide),if_neg hr,if_pos hp];rfl
 ·rw [h3];simp [ops]
theorem step5:doR F4 O1 4 5 c5 = bad 0/\doT F4 O1 4 5 c5 = F5/\doO F4 O1 4 5 c5 = []/\doD F4 O1 4 5 = 5:=by
 obtain ⟨h1,h2,h3,h4⟩:=do_fine (c:=c5) (ref_fine (cl:=5) right_4 (by decide) (by decide)) (by decide);have hc:Os.Op.closeErr O1 5 0 = 0:=by decide
 have hd:Os.Op.closed O1 5 0 = []:=by decide
 have ho:Os.Op.closeOf O1 5 0 = (1,1):=by decide
 have hn:needB F4 [] (1,1) = false:=by decide
 have hp:dropErr F4 1 1 = 0:=by decide
 refine ⟨?_,?_,?_,h4⟩
 ·rw [h1,show rep F4 O1 (4 + 1) 5 c5 = bad (clE F4 O1 5 0) from by simp [rep]];unfold clE reE;rw [if_pos hc,hd,ho,hn,hp];rfl
 ·rw [h2,show tab F4 O1 (4 + 1) 5 c5 = clT F4 O1 5 0 from by simp [tab]];unfold clT reT;rw [if_pos hc,hd,ho,hn,hp];rfl
 ·rw [h3,show ops F4 O1 5 c5 = (if Os.Op.closeErr O1 5 0 = 0 then Os.Op.closed O1 5 0 else O1) from by simp [ops],if_pos hc,hd]
theorem step6:(doR F5 [] 5 5 c6).e = 401/\doD F5 [] 5 5 = 6:=by
 obtain ⟨h1,h2,h3,h4⟩:=do_fine (c:=c6) (ref_fine (cl:=5) right_5 (by decide) (by decide)) (by decide);refine ⟨?_,h4⟩;rw [h1,show rep F5 [] (5 + 1) 5 c6 = readP F5 c6 from by simp [rep]];show rdE F5 c6 = 401;unfold rdE;rw [if_neg (by decide)]
 decide
end Nf
end Go.Proofs.YtneojimodomohaaGreat
namespace Go.Proofs.YtneojimodomohaaGreat
open Go.ChangeShapes Go.WideShapes Go.ChangeAt Go.RowKit Go.Deep It
theorem do_step {S:Nat->Prop} {vi vo:Value} {sp:Option Addr} {sn sc:Nat} {dn cl:Int} {c:Cal} {L:List Rw} {O:List Os.Opn} {w:World} (hv:TabAt S w vi L) (ho:At Os.EO S w vo O) (hok:Sp.okN L) (hc:c.nm.size<=maxLen/\c.nm2.size<=maxLen/\c.data.size<=maxLen) {R:Nf.Rpl} {T:List Ino} {Q:List Os.Opn} {D:Int} (hR:Nf.doR (pl L) O dn cl c = R) (hT:Nf.doT (pl L) O dn cl c = T) (hQ:Nf.doO (pl L) O dn cl c = Q) (hD:Nf.doD (pl L) O dn cl = D) :
  Calls Tryz.prog 11 #[VSt vi vo (.slice sp sn sc) dn,.int .i64 cl,Ks.VC c] w fun e w'=>∃ ep en ec up un uc op on oc L',e = .returned (.tuple #[VSt (.slice up un uc) (.slice op on oc) (.slice sp sn sc) D,VR R (.slice ep en ec)])/\TabAt (fun b=>S b∨w.heap.size<=b) w' (.slice up un uc) L'/\pl L' = T/\At Os.EO (fun b=>S b∨w.heap.size<=b) w' (.slice op on oc) Q/\At EE (fun b=>S b∨w.heap.size<=b) w' (.slice ep en ec) R.ents/\Bw w w':=by
 refine (ndo_any vi vo sp sn sc dn cl c L O w hv ho hok hc.1 hc.2.1 hc.2.2).mono ?_;rintro e w' ⟨u,uo,ve,L',h1,h2,h3,h4,h5,h6⟩;rw [hR,hD] at h1;rw [hT] at h3;rw [hQ] at h4;rw [hR] at h5;obtain ⟨up,uc,hu,-,-⟩:=h2.open;obtain ⟨op,oc,hu2,-,-⟩:=h4.open;obtain ⟨ep,ec,hu3,-,-⟩:=h5.open;subst hu hu2 hu3;exact ⟨_,_,_,_,_,_,_,_,_,L',h1,h2,h3,h4,h5,h6⟩
theorem nnew_any (w:World):Calls Tryz.prog 17 #[] w fun e w'=>∃ ap n cp L,e = .returned (VSt (.slice ap n cp) (.slice none 0 0) (.slice none 0 0) 0)/\TabAt (fun b=>w.heap.size<=b) w' (.slice ap n cp) L/\pl L = It.new/\Bw w w':=by
 obtain ⟨W,hW⟩:=qF (w.alloc BS0);have HB0:Hid _:=qB hW;have HA0:Hid _:=qC hW;have hwW:w.heap.size < W.heap.size:=(qL HA0.out);go_enter Tryz.func17,Tryz.ntmps17;go_wp2_with fail;rw [← hW];clear hW;refine (new_any W).mono ?_;rintro e w1 ⟨u,L,rfl,ht,hp,hb⟩;obtain ⟨ap,cp,hu,-,-⟩:=ht.open;obtain ⟨n,hn⟩:=qE L.length;rw [hn] at hu;subst hu;have HT1:Hid (TabAt (fun b=>w.heap.size < b) w1 (.slice ap n cp) L):=ht.imp (fun b hb _=>by omega);have HP1:Hid (pl L = It.new):=hp;have HB1:=qJ HB0 hb;have HA1:=qK hb HA0;obtain ⟨f0,f1,f2,f3⟩:=st_of HA1.out;have ff:=fr_at HA1.out;clear ht hp hb hn;go_wp2
 (try simp only [Exit.inBlock,Exit.then])
 refine bodyPost_ret (v:=VSt (.slice ap n cp) (.slice none 0 0) (.slice none 0 0) 0) ?_ rfl ⟨ap,n,cp,L,rfl,?_,HP1.out,?_⟩
 ·rw [results_cell1 rfl]
  go_simp
 ·exact (setCells_tab (A:=w.heap.size) (S:=fun b=>w.heap.size < b) (by omega) (cS (.slice ap n cp) (.slice none 0 0) (.slice none 0 0) 0) 0 w1 HT1.out).imp (fun b hb _=>by omega)
 ·exact setCells_below (Nat.le_refl _) (cS (.slice ap n cp) (.slice none 0 0) (.slice none 0 0) 0) 0 w1 HB1.out
theorem entries_same {S T:Nat->Prop} (u v:Value) (l:List (ByteArray × Int × Int × Int)) (w:World) (hu:At EE S w u l) (hv:At EE T w v l) :
  Calls Tryz.prog 41 #[u,v] w fun e w'=>e = .returned (.bool true)/\Bw w w':=by
 obtain ⟨ao,cap,rfl,hm,hx⟩:=hu.open;obtain ⟨bo,cap',rfl,_,hy⟩:=hv.open;clear hu hv;unfold maxLen at hm;obtain ⟨n,hn⟩:=qE l.length;rw [hn] at hm ⊢;have HN:Hid (l.length = n):=hn;have HX:Hid (∀ i x,l[i]? = some x->∃ b off,ao = some ⟨b,off,none⟩/\S b/\b < w.heap.size/\∀ k u,(EE.cells x)[k]? = some u->w.cell? ⟨b,off + (i * 4 + k),none⟩ = some u):=hx;have HY:Hid (∀ i x,l[i]? = some x->∃ b off,bo = some ⟨b,off,none⟩/\T b/\b < w.heap.size/\∀ k u,(EE.cells x)[k]? = some u->w.cell? ⟨b,off + (i * 4 + k),none⟩ = some u):=hy;clear hn hx hy;go_enter Tryz.func41,Tryz.ntmps41;go_wp2;go_loopw [8] (fun i wr=>∃ k:Nat,k<=n/\i = .int .i64 k/\Bw w wr) (fun i _=>n - (intOf i).toNat)
 case atStart=>exact ⟨0,Nat.zero_le _,rfl,Below.refl _ _⟩
 case round =>
  obtain ⟨k,hk,rfl,hbl⟩:=hrel
  by_cases hlt:k < n
  ·obtain ⟨y,hyk⟩:∃ y,l[k]? = some y:=⟨_,List.getElem?_eq_getElem (by rw [HN.out];exact hlt)⟩;obtain ⟨b,off,rfl,_,hB,hc⟩:=HX.out k y hyk;obtain ⟨b',off',rfl,_,hB',hc'⟩:=HY.out k y hyk;have c0:=hc 0 _ rfl;have c1:=hc 1 _ rfl;have c2:=hc 2 _ rfl;have c3:=hc 3 _ rfl;have d0:=hc' 0 _ rfl;have d1:=hc' 1 _ rfl;have d2:=hc' 2 _ rfl;have d3:=hc' 3 _ rfl;rw [← hbl.cell (p:=⟨b,off + (k * 4 + 0),none⟩) hB,Nat.add_zero] at c0;rw [← hbl.cell (p:=⟨b,off + (k * 4 + 1),none⟩) hB,← Nat.add_assoc] at c1;rw [← hbl.cell (p:=⟨b,off + (k * 4 + 2),none⟩) hB,← Nat.add_assoc] at c2;rw [← hbl.cell (p:=⟨b,off + (k * 4 + 3),none⟩) hB,← Nat.add_assoc] at c3;rw [← hbl.cell (p:=⟨b',off' + (k * 4 + 0),none⟩) hB',Nat.add_zero] at d0;rw [← hbl.cell (p:=⟨b',off' + (k * 4 + 1),none⟩) hB',← Nat.add_assoc] at d1;rw [← hbl.cell (p:=⟨b',off' + (k * 4 + 2),none⟩) hB',← Nat.add_assoc] at d2;rw [← hbl.cell (p:=⟨b',off' + (k * 4 + 3),none⟩) hB',← Nat.add_assoc] at d3;obtain ⟨y0,y1,y2,y3⟩:=y;simp only at c0 c1 c2 c3 d0 d1 d2 d3;have hlt':(k:Int) < (n:Int):=by omega
   have hge:decide ((n:Int)<=(k:Int)) = false:=by simp;omega
   have hge2:decide (n<=k) = false:=by simp;omega
   clear hyk hc hc';go_wp2
   go_quiet (fail)
   go_wp2
   go_roundw
   case rel=>exact ⟨k + 1,by omega,by go_num,Go.below_drewN hbl _⟩
   case measure=>simp [intOf];omega
  ·obtain rfl:k = n:=by omega
   go_wp2;go_ret;exact ⟨by simp,hbl⟩
theorem eight_grw {w:World} {b o:Nat} {x:Rw} (h:eight w b o x) (p:Grw w):eight p.out b o x:=h.below p.below (World.block_lt_of_cell? _ _ h.1)
theorem inodes_same {S T:Nat->Prop} (u v:Value) (L M:List Rw) (w:World) (hu:TabAt S w u L) (hv:TabAt T w v M) (hp:pl L = pl M) :
  Calls Tryz.prog 38 #[u,v] w fun e w'=>e = .returned (.bool true)/\Bw w w':=by
 obtain ⟨ao,cap,rfl,hm,hx⟩:=hu.open;obtain ⟨bo,cap',rfl,_,hy⟩:=hv.open;clear hu hv;unfold maxLen at hm;have hlen:M.length = L.length:=by have:=congrArg List.length hp;simpa [pl] using this.symm
 rw [hlen];obtain ⟨n,hn⟩:=qE L.length;rw [hn] at hm hlen ⊢;have HN:Hid (L.length = n/\M.length = n):=⟨hn,hlen⟩;have HP:Hid _:=hp;have HX:Hid _:=hx;have HY:Hid _:=hy;clear hn hlen hx hy hp;go_enter Tryz.func38,Tryz.ntmps38;go_wp2;go_loopw [8] (fun i wr=>∃ k:Nat,k<=n/\i = .int .i64 k/\Bw w wr) (fun i _=>n - (intOf i).toNat)
 case atStart=>exact ⟨0,Nat.zero_le _,rfl,Below.refl _ _⟩
 case round =>
  obtain ⟨k,hk,rfl,hbl⟩:=hrel
  by_cases hlt:k < n
  ·obtain ⟨x,hxk⟩:∃ y,L[k]? = some y:=⟨_,List.getElem?_eq_getElem (by rw [HN.out.1];exact hlt)⟩;obtain ⟨y,hyk⟩:∃ y,M[k]? = some y:=⟨_,List.getElem?_eq_getElem (by rw [HN.out.2];exact hlt)⟩;have hxy:y.i = x.i:=by
    have:=congrArg (fun l=>l[k]?) HP.out;simp only [pl,List.getElem?_map,hxk,hyk,Option.map_some,Option.some.injEq] at this;exact this.symm
   obtain ⟨⟨b,off,rfl,hB,hc⟩,hgx⟩:=HX.out k x hxk;obtain ⟨⟨b',off',rfl,hB',hc'⟩,hgy⟩:=HY.out k y hyk;have HR:Hid (∀ W,wr.grownBy W none->Calls Tryz.prog 90 #[.slice x.rp x.rn x.rc,.slice y.rp y.rn y.rc] W fun e w'=>e = .returned (.bool true)/\Bw W w'):=fun W hW=>by
    have h1:=((hgx.up hbl).up (below_none hW (Nat.le_refl _))).1.fields;have h2:=((hgy.up hbl).up (below_none hW (Nat.le_refl _))).1.fields;rw [hxy] at h2;exact runs_same _ _ _ W h1 h2
   have HE:Hid (∀ W,wr.grownBy W none->Calls Tryz.prog 41 #[.slice x.ep x.en x.ec,.slice y.ep y.en y.ec] W fun e w'=>e = .returned (.bool true)/\Bw W w'):=fun W hW=>by
    have h1:=((hgx.up hbl).up (below_none hW (Nat.le_refl _))).2.1;have h2:=((hgy.up hbl).up (below_none hW (Nat.le_refl _))).2.1;rw [hxy] at h2;exact entries_same _ _ _ W h1 h2
   have hcx:=eight_grw (hc.below hbl hB);have hcy:=eight_grw (hc'.below hbl hB');unfold eight at hcx hcy;rw [hxy] at hcy;have HB:Hid _:=hbl;obtain ⟨⟨g,kk,l,s,t,rs,es,nx⟩,rp,rn,rc,ep,en,ec⟩:=x;obtain ⟨yi,yrp,yrn,yrc,yep,yen,yec⟩:=y;simp only at hcx hcy HR HE;have a0:=fun p=>(hcx p).1
   have a1:=fun p=>(hcx p).2.1
   have a2:=fun p=>(hcx p).2.2.1
   have a3:=fun p=>(hcx p).2.2.2.1
   have a4:=fun p=>(hcx p).2.2.2.2.1
   have a5:=fun p=>(hcx p).2.2.2.2.2.1
   have a6:=fun p=>(hcx p).2.2.2.2.2.2.1
   have a7:=fun p=>(hcx p).2.2.2.2.2.2.2
   have b0:=fun p=>(hcy p).1
   have b1:=fun p=>(hcy p).2.1
   have b2:=fun p=>(hcy p).2.2.1
   have b3:=fun p=>(hcy p).2.2.2.1
   have b4:=fun p=>(hcy p).2.2.2.2.1
   have b5:=fun p=>(hcy p).2.2.2.2.2.1
   have b6:=fun p=>(hcy p).2.2.2.2.2.2.1
   have b7:=fun p=>(hcy p).2.2.2.2.2.2.2
   have hlt':(k:Int) < (n:Int):=by omega
   have hge:decide ((n:Int)<=(k:Int)) = false:=by simp;omega
   have hge2:decide (n<=k) = false:=by simp;omega
   have hne9:Nonempty (Grw wr):=grw_some wr;clear hxk hyk hxy hc hc' hgx hgy hcx hcy hbl hB hB';go_wp2_with fail;simp only [List.cons_append,List.nil_append,List.append_eq];refine wp_region_grw (by kernel_rfl) (by kernel_rfl) ?_
   repeat (go_big_quiet_step (first | (go_at_call 90;refine calls_grw (Grw.grown _) (HR.out _ (Grw.grown _))) | (go_at_call 41;refine calls_grw (Grw.grown _) (HE.out _ (Grw.grown _)))))
   refine wpQuiet_nil ?_;rintro wq ⟨p,rfl⟩;have HBq:=qJ HB p.below;go_wp2
   go_roundw
   case rel=>exact ⟨k + 1,by omega,by go_num,HBq.out⟩
   case measure=>simp [intOf];omega
  ·obtain rfl:k = n:=by omega
   go_wp2;go_ret;exact ⟨by simp,hbl⟩
end Go.Proofs.YtneojimodomohaaGreat
namespace Go.Proofs.YtneojimodomohaaGreat.Os
open Go.ChangeShapes Go.WideShapes Go.ChangeAt Go.RowKit Go.Deep
def EI:Enc Int:=⟨1,fun x=>[.int .i64 x],fun _=>rfl,fun x u hu=>by
  simp at hu;subst hu;rfl⟩
theorem rto_any (no gen:Int) (w:World):Calls Tryz.prog 89 #[VH no gen] w fun e w'=>e = .returned (.bool (decide (Ho no gen)))/\w' = w.alloc (BH no gen):=by
 by_cases h1:0<=no
 ·by_cases h2:no < 24
  ·by_cases h3:1<=gen
   ·by_cases h4:gen<=1099511627776
    ·rw [decide_eq_true (show Ho no gen from ⟨⟨h1,by omega⟩,h3,h4⟩)];go_enter Tryz.func89,Tryz.ntmps89;go_wp2;go_ret;exact ⟨rfl,rfl⟩
    ·rw [decide_eq_false (show ¬ Ho no gen from fun h=>h4 h.2.2)];go_enter Tryz.func89,Tryz.ntmps89;go_wp2;go_ret;exact ⟨rfl,rfl⟩
   ·rw [decide_eq_false (show ¬ Ho no gen from fun h=>h3 h.2.1)];go_enter Tryz.func89,Tryz.ntmps89;go_wp2;go_ret;exact ⟨rfl,rfl⟩
  ·rw [decide_eq_false (show ¬ Ho no gen from fun h=>h2 (by have:=h.1.2;omega))];go_enter Tryz.func89,Tryz.ntmps89;go_wp2;go_ret;exact ⟨rfl,rfl⟩
 ·rw [decide_eq_false (show ¬ Ho no gen from fun h=>h1 h.1.1)];go_enter Tryz.func89,Tryz.ntmps89;go_wp2;go_ret;exact ⟨rfl,rfl⟩
theorem rright_any (v:Value) (l:List Opn) (w:World) (hv:AtW EO w v l) :
  Calls Tryz.prog 33 #[v] w fun e w'=>e = .returned (.bool (Op.right 0 l))/\Bw w w':=by
 obtain ⟨ao,cap,rfl,hm,hx⟩:=hv.open;clear hv;unfold maxLen at hm;obtain ⟨n,hn⟩:=qE l.length;rw [hn] at hm ⊢;have HN:Hid _:=hn;have HX:Hid _:=hx;obtain ⟨r,hr⟩:=qE (Op.right 0 l);rw [hr];have HR:Hid _:=hr;clear hn hx hr;go_enter Tryz.func33,Tryz.ntmps33;go_wp2;go_loopw [3,8] (fun t i wr=>∃ (k:Nat) (t':Int),k<=n/\i = .int .i64 k/\t = .int .i64 t'/\-1<=t'/\Hid (Op.right 0 l = Op.right (t' + 1) (l.drop k))/\Hid (Bw w wr)) (fun _ i _=>n - (intOf i).toNat)
 case atStart=>exact ⟨0,-1,Nat.zero_le _,rfl,rfl,Int.le_refl _,rfl,Below.refl _ _⟩
 case round =>
  obtain ⟨k,t,hk,rfl,rfl,ht0,HP,HB⟩:=hrel;have hsz:=HB.out.size
  by_cases hlt:k < n
  ·obtain ⟨x,hxk⟩:∃ x,l[k]? = some x:=⟨_,List.getElem?_eq_getElem (by rw [HN.out];exact hlt)⟩;have HXK:Hid _:=hxk;obtain ⟨b,off,rfl,-,hB,hc⟩:=HX.out k x hxk;obtain ⟨c0,c1,c2,c3⟩:=opn_cells HB.out hB hc;clear hc hxk;have hlt':(k:Int) < (n:Int):=by omega
   have HNO:Hid (¬ Op.good (t + 1) x->r = false):=fun hg=>by
    have:=HR.out;rw [HP.out,Op.right_no HXK.out hg] at this;exact this.symm
   have HYES:Hid (Op.good (t + 1) x->Op.right 0 l = Op.right (x.1 + 1) (l.drop (k + 1))):=fun hg=>HP.out.trans (Op.right_yes HXK.out hg)
   by_cases g0:x.1<=t
   ·have H:Hid _:=HNO.out fun h=>by have:=h.1.1;omega
    go_wp2;go_ret;rw [H.out];exact ⟨rfl,HB.out.alloc hsz _⟩
   by_cases g1:16<=x.1
   ·have H:Hid _:=HNO.out fun h=>by have:=h.1.2;omega
    go_wp2;go_ret;rw [H.out];exact ⟨rfl,HB.out.alloc hsz _⟩
   by_cases g2:x.2.1 < 0
   ·have H:Hid _:=HNO.out fun h=>by have:=h.2.1.1;omega
    go_wp2;go_ret;rw [H.out];exact ⟨rfl,HB.out.alloc hsz _⟩
   by_cases g3:1099511627776 < x.2.1
   ·have H:Hid _:=HNO.out fun h=>by have:=h.2.1.2;omega
    go_wp2;go_ret;rw [H.out];exact ⟨rfl,HB.out.alloc hsz _⟩
   by_cases g4:Ho x.2.2.1 x.2.2.2
   ·have HY:Hid _:=HYES.out ⟨⟨by omega,by omega⟩,⟨by omega,by omega⟩,g4⟩;have G4:Hid _:=decide_eq_true g4;have hge:-1<=x.1:=by omega
    clear g4;go_wp2_with fail;refine (rto_any _ _ _).mono ?_;rintro e w' ⟨rfl,rfl⟩;rw [G4.out];have HB2:Hid (Bw w ((wr.alloc (BO x)).alloc (BH x.2.2.1 x.2.2.2))):=(HB.out.alloc hsz _).alloc (by simp;omega) _;go_wp2
    go_roundw
    case rel=>exact ⟨k + 1,x.1,by omega,by go_num,rfl,hge,HY,HB2⟩
    case measure=>simp [intOf];omega
   ·have H:Hid _:=HNO.out fun h=>g4 h.2.2
    have G4:Hid _:=decide_eq_false g4;clear g4;go_wp2_with fail;refine (rto_any _ _ _).mono ?_;rintro e w' ⟨rfl,rfl⟩;rw [G4.out];have HB2:Hid (Bw w ((wr.alloc (BO x)).alloc (BH x.2.2.1 x.2.2.2))):=(HB.out.alloc hsz _).alloc (by simp;omega) _;go_wp2;go_ret;rw [H.out];exact ⟨rfl,HB2.out⟩
  ·obtain rfl:k = n:=by omega
   have H:Hid (r = true):=by
    have:=HR.out;rw [HP.out,Op.right_end HN.out.symm] at this;exact this.symm
   go_wp2;go_ret;rw [H.out];exact ⟨rfl,HB.out⟩
theorem opens_same {S T:Nat->Prop} (u v:Value) (l:List Opn) (w:World) (hu:At EO S w u l) (hv:At EO T w v l) :
  Calls Tryz.prog 39 #[u,v] w fun e w'=>e = .returned (.bool true)/\Bw w w':=by
 obtain ⟨ao,cap,rfl,hm,hx⟩:=hu.open;obtain ⟨bo,cap',rfl,_,hy⟩:=hv.open;clear hu hv;unfold maxLen at hm;obtain ⟨n,hn⟩:=qE l.length;rw [hn] at hm ⊢;have HN:Hid (l.length = n):=hn;have HX:Hid (∀ i x,l[i]? = some x->∃ b off,ao = some ⟨b,off,none⟩/\S b/\b < w.heap.size/\∀ k u,(EO.cells x)[k]? = some u->w.cell? ⟨b,off + (i * 4 + k),none⟩ = some u):=hx;have HY:Hid (∀ i x,l[i]? = some x->∃ b off,bo = some ⟨b,off,none⟩/\T b/\b < w.heap.size/\∀ k u,(EO.cells x)[k]? = some u->w.cell? ⟨b,off + (i * 4 + k),none⟩ = some u):=hy;clear hn hx hy;go_enter Tryz.func39,Tryz.ntmps39;go_wp2;go_loopw [8] (fun i wr=>∃ k:Nat,k<=n/\i = .int .i64 k/\Bw w wr) (fun i _=>n - (intOf i).toNat)
 case atStart=>exact ⟨0,Nat.zero_le _,rfl,Below.refl _ _⟩
 case round =>
  obtain ⟨k,hk,rfl,hbl⟩:=hrel
  by_cases hlt:k < n
  ·obtain ⟨y,hyk⟩:∃ y,l[k]? = some y:=⟨_,List.getElem?_eq_getElem (by rw [HN.out];exact hlt)⟩;obtain ⟨b,off,rfl,_,hB,hc⟩:=HX.out k y hyk;obtain ⟨b',off',rfl,_,hB',hc'⟩:=HY.out k y hyk;have c0:=hc 0 _ rfl;have c1:=hc 1 _ rfl;have c2:=hc 2 _ rfl;have c3:=hc 3 _ rfl;have d0:=hc' 0 _ rfl;have d1:=hc' 1 _ rfl;have d2:=hc' 2 _ rfl;have d3:=hc' 3 _ rfl;rw [← hbl.cell (p:=⟨b,off + (k * 4 + 0),none⟩) hB,Nat.add_zero] at c0;rw [← hbl.cell (p:=⟨b,off + (k * 4 + 1),none⟩) hB,← Nat.add_assoc] at c1;rw [← hbl.cell (p:=⟨b,off + (k * 4 + 2),none⟩) hB,← Nat.add_assoc] at c2;rw [← hbl.cell (p:=⟨b,off + (k * 4 + 3),none⟩) hB,← Nat.add_assoc] at c3;rw [← hbl.cell (p:=⟨b',off' + (k * 4 + 0),none⟩) hB',Nat.add_zero] at d0;rw [← hbl.cell (p:=⟨b',off' + (k * 4 + 1),none⟩) hB',← Nat.add_assoc] at d1;rw [← hbl.cell (p:=⟨b',off' + (k * 4 + 2),none⟩) hB',← Nat.add_assoc] at d2;rw [← hbl.cell (p:=⟨b',off' + (k * 4 + 3),none⟩) hB',← Nat.add_assoc] at d3;obtain ⟨y0,y1,y2,y3⟩:=y;simp only at c0 c1 c2 c3 d0 d1 d2 d3;have hlt':(k:Int) < (n:Int):=by omega
   have hge:decide ((n:Int)<=(k:Int)) = false:=by simp;omega
   have hge2:decide (n<=k) = false:=by simp;omega
   clear hyk hc hc';go_wp2
   go_quiet (fail)
   go_wp2
   go_roundw
   case rel=>exact ⟨k + 1,by omega,by go_num,Go.below_drewN hbl _⟩
   case measure=>simp [intOf];omega
  ·obtain rfl:k = n:=by omega
   go_wp2;go_ret;exact ⟨by simp,hbl⟩
end Go.Proofs.YtneojimodomohaaGreat.Os
namespace Go.Proofs.YtneojimodomohaaGreat
open Go.ChangeShapes Go.WideShapes Go.ChangeAt Go.RowKit Go.Deep It
namespace Es
abbrev Sea:=Int × Int × ByteArray
def ES:Enc Sea:=⟨3,fun x=>[.int .i64 x.1,.int .i64 x.2.1,.string x.2.2],fun _=>rfl,fun x u hu=>by
 simp at hu;rcases hu with rfl | rfl | rfl <;> rfl⟩
abbrev VS (x:Sea):Value:=.agg #[.int .i64 x.1,.int .i64 x.2.1,.string x.2.2]
theorem sea_cells {w wr:World} {b off k:Nat} {x:Sea} (h:Bw w wr) (hB:b < w.heap.size) (hc:∀ j u,(ES.cells x)[j]? = some u->w.cell? ⟨b,off + (k * ES.sz + j),none⟩ = some u) :
  wr.cell? ⟨b,off + k * 3,none⟩ = some (.int .i64 x.1)/\wr.cell? ⟨b,off + k * 3 + 1,none⟩ = some (.int .i64 x.2.1)/\wr.cell? ⟨b,off + k * 3 + 2,none⟩ = some (.string x.2.2):=by
 have a:=fun j u hj=>(h.cell (p:=⟨b,off + (k * ES.sz + j),none⟩) hB).trans (hc j u hj)
 exact ⟨a 0 _ rfl,a 1 _ rfl,a 2 _ rfl⟩
abbrev Over (w:World) (ao:Option Addr) (l:List Sea):Prop:=∀ i x,l[i]? = some x->∃ b off,ao = some ⟨b,off,none⟩/\True/\b < w.heap.size/\∀ k u,(ES.cells x)[k]? = some u->w.cell? ⟨b,off + (i * ES.sz + k),none⟩ = some u
theorem eql_sea (w:World) (x:Sea):(binOp .neq 116 (VS x) (VS x)).run Tryz.prog w = .ok (.bool false) w:=by
 obtain ⟨x0,x1,x2⟩:=x
 go_simp
theorem seats_same {S T:Nat->Prop} (u v:Value) (l:List Sea) (w:World) (hu:At ES S w u l) (hv:At ES T w v l) :
  Calls Tryz.prog 40 #[u,v] w fun e w'=>e = .returned (.bool true)/\Bw w w':=by
 obtain ⟨ao,cap,rfl,hm,hx⟩:=hu.wide.open;obtain ⟨bo,cap',rfl,-,hy⟩:=hv.wide.open;clear hu hv;unfold maxLen at hm;obtain ⟨n,hn⟩:=qE l.length;rw [hn] at hm ⊢;have HN:Hid _:=hn;have HX:Hid _:=hx;have HY:Hid _:=hy;clear hn hx hy;go_enter Tryz.func40,Tryz.ntmps40;go_wp2;go_loopw [8] (fun i wr=>∃ k:Nat,k<=n/\i = .int .i64 k/\Hid (Bw w wr)) (fun i _=>n - (intOf i).toNat)
 case atStart=>exact ⟨0,Nat.zero_le _,rfl,Below.refl _ _⟩
 case round =>
  obtain ⟨k,hk,rfl,HB⟩:=hrel
  by_cases hlt:k < n
  ·obtain ⟨x,hxk⟩:∃ x,l[k]? = some x:=⟨_,List.getElem?_eq_getElem (by rw [HN.out];exact hlt)⟩;obtain ⟨b,off,rfl,-,hB,hc⟩:=HX.out k x hxk;obtain ⟨b',off',rfl,-,hB',hc'⟩:=HY.out k x hxk;obtain ⟨c0,c1,c2⟩:=sea_cells HB.out hB hc;obtain ⟨d0,d1,d2⟩:=sea_cells HB.out hB' hc';clear hc hc' hxk;have hlt':(k:Int) < (n:Int):=by omega
   have hge:decide ((n:Int)<=(k:Int)) = false:=decide_eq_false (by omega);have heq:∀ w',(binOp .neq 116 (VS x) (VS x)).run Tryz.prog w' = .ok (.bool false) w':=fun w'=>eql_sea w' x
   have HB2:Hid (∀ q,Bw w (wr.drewN q)):=fun _=>⟨HB.out.os,HB.out.tape,HB.out.output,HB.out.size,HB.out.block⟩
   go_wp2_with fail
   go_quiet (fail)
   go_wp2
   go_roundw
   case rel=>exact ⟨k + 1,by omega,by go_num,HB2.out _⟩
   case measure=>simp [intOf];omega
  ·obtain rfl:k = n:=by omega
   go_wp2;go_ret;exact ⟨rfl,HB.out⟩
end Es
theorem two_st (w:World) (x y:Obj):Bw w ((w.alloc x).alloc y):=(qG _ _).alloc (by simp) _
theorem eq_hand (no gen:Int) (w:World):(binOp .eql 28 (.agg #[.int .i64 no,.int .i64 gen]) (.agg #[.int .i64 no,.int .i64 gen])).run Tryz.prog w = .ok (.bool true) w:=by
 have t1:(no == no) = true:=beq_self_eq_true _;have t2:(gen == gen) = true:=beq_self_eq_true _
 go_simp
theorem eq_attr (k l s t:Int) (w:World):(binOp .eql 37 (VA k l s t) (VA k l s t)).run Tryz.prog w = .ok (.bool true) w:=by
 have t1:(k == k) = true:=beq_self_eq_true _;have t2:(l == l) = true:=beq_self_eq_true _;have t3:(s == s) = true:=beq_self_eq_true _;have t4:(t == t) = true:=beq_self_eq_true _
 go_simp
theorem reply_same {S U:Nat->Prop} (r:Nf.Rpl) (u v:Value) (w:World) (hu:At EE S w u r.ents) (hv:At EE U w v r.ents):Calls Tryz.prog 16 #[VR r u,VR r v] w fun e w'=>e = .returned (.bool true)/\Bw w w':=by
 obtain ⟨e,no,gen,k,l,s,t,data,ents,n⟩:=r;have HU:Hid (At EE S w u ents):=hu;have HV:Hid (At EE U w v ents):=hv;obtain ⟨ao,cap,rfl,-,-⟩:=HU.out.open;obtain ⟨bo,cap',rfl,-,-⟩:=HV.out.open;obtain ⟨z,hz⟩:=qE ents.length;rw [hz] at HU HV ⊢;have t0:(e == e) = true:=beq_self_eq_true _;have t1:∀ w',(binOp .eql 28 (.agg #[.int .i64 no,.int .i64 gen]) (.agg #[.int .i64 no,.int .i64 gen])).run Tryz.prog w' = .ok (.bool true) w':=eq_hand no gen;have t2:∀ w',(binOp .eql 37 (VA k l s t) (VA k l s t)).run Tryz.prog w' = .ok (.bool true) w':=eq_attr k l s t;have t3:(data.toList == data.toList) = true:=beq_self_eq_true _;have t4:(n == n) = true:=beq_self_eq_true _;have HW:Hid _:=two_st w;clear hu hv hz;go_enter Tryz.func16,Tryz.ntmps16;go_wp2_with fail;refine (entries_same _ _ ents _ (HU.out.up (HW.out _ _)) (HV.out.up (HW.out _ _))).mono ?_;rintro e' w1 ⟨rfl,hb1⟩;go_wp2;go_ret;exact ⟨rfl,(HW.out _ _).trans (hb1.mono (HW.out _ _).size)⟩
theorem state_same {S T S2 T2 S3 T3:Nat->Prop} (vi vo vs ui uo us:Value) (dn:Int) (L M:List Rw) (O:List Os.Opn) (Z:List Es.Sea) (w:World) (h1:TabAt S w vi L) (h2:TabAt T w ui M) (hp:pl L = pl M) (h3:At Os.EO S2 w vo O) (h4:At Os.EO T2 w uo O) (h5:At Es.ES S3 w vs Z) (h6:At Es.ES T3 w us Z) :
  Calls Tryz.prog 15 #[VSt vi vo vs dn,VSt ui uo us dn] w fun e w'=>e = .returned (.bool true)/\Bw w w':=by
 have H1:Hid (TabAt S w vi L):=h1;have H2:Hid (TabAt T w ui M):=h2;have H3:Hid (At Os.EO S2 w vo O):=h3;have H4:Hid (At Os.EO T2 w uo O):=h4;have H5:Hid (At Es.ES S3 w vs Z):=h5;have H6:Hid (At Es.ES T3 w us Z):=h6;have HP:Hid (pl L = pl M):=hp;obtain ⟨a1,b1,e1,-,-⟩:=h1.open;obtain ⟨a2,b2,e2,-,-⟩:=h2.open;obtain ⟨a3,b3,e3,-,-⟩:=h3.open;obtain ⟨a4,b4,e4,-,-⟩:=h4.open;obtain ⟨a5,b5,e5,-,-⟩:=h5.open;obtain ⟨a6,b6,e6,-,-⟩:=h6.open;obtain ⟨n1,hn1⟩:=qE L.length;obtain ⟨n2,hn2⟩:=qE M.length;obtain ⟨n3,hn3⟩:=qE O.length;obtain ⟨n4,hn4⟩:=qE Z.length;rw [hn1] at e1;rw [hn2] at e2;rw [hn3] at e3 e4;rw [hn4] at e5 e6;subst e1 e2 e3 e4 e5 e6;have t0:(dn == dn) = true:=beq_self_eq_true _;have HW:Hid (∀ x y:Obj,Bw w ((w.alloc x).alloc y)):=two_st w;obtain ⟨W,hW⟩:=qF ((w.alloc (BSt (.slice a1 n1 b1) (.slice a3 n3 b3) (.slice a5 n4 b5) dn)).alloc (BSt (.slice a2 n2 b2) (.slice a4 n3 b4) (.slice a6 n4 b6) dn));have HB:Hid (Bw w W):=by show Below _ _ _;rw [hW];exact HW.out _ _
 have HX:Hid (W.heap[w.heap.size]? = some (BSt (.slice a1 n1 b1) (.slice a3 n3 b3) (.slice a5 n4 b5) dn)):=by show _ = _;rw [hW];exact (Below.heap_alloc _ _ _ (by simp)).trans (heap_alloc_new _ _)
 have HY:Hid (W.heap[w.heap.size + 1]? = some (BSt (.slice a2 n2 b2) (.slice a4 n3 b4) (.slice a6 n4 b6) dn)):=by show _ = _;rw [hW];have h:=heap_alloc_new (w.alloc (BSt (.slice a1 n1 b1) (.slice a3 n3 b3) (.slice a5 n4 b5) dn)) (BSt (.slice a2 n2 b2) (.slice a4 n3 b4) (.slice a6 n4 b6) dn);simpa using h
 clear h1 h2 h3 h4 h5 h6 hn1 hn2 hn3 hn4 hp;go_enter Tryz.func15,Tryz.ntmps15;go_wp2_with fail;rw [← hW];clear hW;refine (inodes_same _ _ L M _ (H1.out.up HB.out) (H2.out.up HB.out) HP.out).mono ?_;rintro e' w1 ⟨rfl,hb1⟩;have HB1:=qJ HB hb1;have HX1:=qK hb1 HX;have HY1:=qK hb1 HY;obtain ⟨x0,x1,x2,x3⟩:=st_of HX1.out;obtain ⟨y0,y1,y2,y3⟩:=st_of HY1.out;clear hb1;go_wp2_with fail;refine (Os.opens_same _ _ O _ (H3.out.up HB1.out) (H4.out.up HB1.out)).mono ?_;rintro e' w2 ⟨rfl,hb2⟩;have HB2:=qJ HB1 hb2;have HX2:=qK hb2 HX1;have HY2:=qK hb2 HY1;clear hb2 x0 x1 x2 x3 y0 y1 y2 y3;obtain ⟨x0,x1,x2,x3⟩:=st_of HX2.out;obtain ⟨y0,y1,y2,y3⟩:=st_of HY2.out;go_wp2_with fail;refine (Es.seats_same _ _ Z _ (H5.out.up HB2.out) (H6.out.up HB2.out)).mono ?_;rintro e' w3 ⟨rfl,hb3⟩;go_wp2;go_ret;exact ⟨rfl,HB2.out.trans (hb3.mono HB2.out.size)⟩
end Go.Proofs.YtneojimodomohaaGreat
namespace Go.Proofs.YtneojimodomohaaGreat
namespace Law
open Go.ChangeShapes Go.WideShapes Go.ChangeAt Go.RowKit
theorem below_trodAll {H:Type} {enc:TypeId × Value->H} {P:Program} {W W':World} (hl:laidOutB P = true) (hb:Bw W W') :
  ∀ (ts:List TypeId) (vs:List Value) (ds:List (DataW H)) (p:List MemPlace),(∀ t∈ts,P.readableRec t = true/\t < P.types.size)->(∀ x∈p,x.block < W.heap.size) ->
   DataW.TrodAll enc P W 0 (fun _=>true) true ts vs ds p->DataW.TrodAll enc P W' 0 (fun b=>decide (b < W.heap.size)) true ts vs ds p
 | [],[],[],_,_,_,h=>h
 | t :: ts,v :: vs,d :: ds,p,hts,hlt,h=>by
  obtain ⟨p0,q,h0,hq,rfl⟩:=h;have ht:=hts t (by simp);exact ⟨p0,q,Below.trod hl ht.1 ht.2 h0 hb (fun x hx=>hlt x (by simp [hx])),below_trodAll hl hb ts vs ds q (fun u hu=>hts u (by simp [hu])) (fun x hx=>hlt x (by simp [hx])) hq,rfl⟩
theorem post {H:Type} {enc:TypeId × Value->H} {P:Program} {f:Func} {s:ChangeSpec} {tb:TypeId} {W W':World} {args:Array Value} {ds gs:List (DataW H)} {before:List MemPlace}
  (hl:laidOutB P = true) (hts:f.params.toList.all (fun t=>P.readableRec t && decide (t < P.types.size)) = true) (hrt:f.resultTypes = #[tb]) (hub:P.underlying tb = some .bool)
  (hW:DataW.Whole enc P f.params.toList s.vars false W args.toList ds gs before) (hv:s.vars = [])
  (hspec:s.fn H (ds ++ gs) = { results:=[.lit (.bool true)],args:=ds }) (hb:Bw W W') :
  s.post enc P f false true false false W args (.bool true) W':=by
 have hW':=hW;obtain ⟨p,q,hA,hV,rfl,hfz,hnd⟩:=hW;rw [hv] at hV;obtain ⟨rfl,rfl⟩:=trodVars_none hV;have hlt:∀ x∈p,x.block < W.heap.size:=fun x hx=>by simpa using hW'.lt x (by simpa using hx)
 refine ⟨ds,[],p ++ [],[],p,[],hW',?_,?_,?_,hb.frame _,fun h=>by cases h⟩
 ·rw [hspec,hrt];exact trodAll_mk1 (shut_bool hub _)
 ·rw [hspec];refine below_trodAll hl hb _ _ _ _ (fun t ht=>?_) hlt hA;have:=List.all_eq_true.1 hts t ht;simpa using this
 ·rw [hspec,hv];rfl
end Law
open Go.ChangeShapes Go.WideShapes Go.ChangeAt Go.RowKit Go.Deep It
abbrev Doc:=Int × Cal
def cDo (x:Doc):List Value:=[.int .i64 x.1,.int .i64 x.2.k,.int .i64 x.2.no,.int .i64 x.2.gen,.int .i64 x.2.no2,.int .i64 x.2.gen2,.string x.2.nm,.string x.2.nm2,.int .i64 x.2.pl,.int .i64 x.2.n,.string x.2.data]
def EDo:Enc Doc:=⟨11,cDo,fun _=>rfl,fun x u hu=>by
 simp [cDo] at hu;rcases hu with rfl | rfl | rfl | rfl | rfl | rfl | rfl | rfl | rfl | rfl | rfl <;> rfl⟩
def fits (c:Cal):Prop:=c.nm.size<=maxLen/\c.nm2.size<=maxLen/\c.data.size<=maxLen
theorem open_c10 {H:Type} {enc:TypeId × Value->H} {w:World} {n:Nat} {cs:List Value} {d:DataW H} {pl:List MemPlace} (hl:cs.length = 10) (h:DataW.trod enc Tryz.prog w 0 (fun _=>true) true n 30 cs = some (d,pl)):∃ c:Cal,cs = (cDo (0,c)).tail/\fits c:=by
 obtain ⟨xs,m,_,_,_,hxl,hg⟩:=DataW.trod_struct Tryz.underlying30 h
 match cs,hl with
 | [c0, c1, c2, c3, c4, c5, c6, c7, c8, c9], _ =>
  have hx8:xs.length = 8:=by rw [hxl];rfl
  have g0:=hg 0 _ rfl;have g1:=hg 1 _ rfl;have g2:=hg 2 _ rfl;have g3:=hg 3 _ rfl;have g4:=hg 4 _ rfl;have g5:=hg 5 _ rfl;have g6:=hg 6 _ rfl;have g7:=hg 7 _ rfl
  match xs,hx8 with
  | [y0,y1,y2,y3,y4,y5,y6,y7],_ =>
   simp only [List.getElem_toArray,List.getElem_cons_zero,List.getElem_cons_succ] at g0 g1 g2 g3 g4 g5 g6 g7;simp only [show Tryz.prog.cellsOf 9 = 1 from by kernel_rfl,show Tryz.prog.cellsOf 3 = 1 from by kernel_rfl,show Tryz.prog.cellsOf 28 = 2 from by kernel_rfl] at g0 g1 g2 g3 g4 g5 g6 g7;simp at g0 g1 g2 g3 g4 g5 g6 g7;obtain ⟨z0,z1,m2,_,_,k0,k1⟩:=trod_struct2 Tryz.underlying28 g1;obtain ⟨u0,u1,m3,_,_,j0,j1⟩:=trod_struct2 Tryz.underlying28 g2;simp only [show Tryz.prog.cellsOf 3 = 1 from by kernel_rfl] at k0 k1 j0 j1;simp at k0 k1 j0 j1;obtain ⟨k,e0,_,_⟩:=DataW.trod_int Tryz.underlying3 g0;obtain ⟨no,e1,_,_⟩:=DataW.trod_int Tryz.underlying3 k0;obtain ⟨gen,e2,_,_⟩:=DataW.trod_int Tryz.underlying3 k1;obtain ⟨no2,e3,_,_⟩:=DataW.trod_int Tryz.underlying3 j0;obtain ⟨gen2,e4,_,_⟩:=DataW.trod_int Tryz.underlying3 j1;obtain ⟨nm,e5,_,s5⟩:=DataW.trod_string Tryz.underlying9 g3;obtain ⟨nm2,e6,_,s6⟩:=DataW.trod_string Tryz.underlying9 g4;obtain ⟨pl,e7,_,_⟩:=DataW.trod_int Tryz.underlying3 g5;obtain ⟨n,e8,_,_⟩:=DataW.trod_int Tryz.underlying3 g6;obtain ⟨data,e9,_,s9⟩:=DataW.trod_string Tryz.underlying9 g7;simp only [List.cons.injEq,and_true] at e0 e1 e2 e3 e4 e5 e6 e7 e8 e9;subst e0;subst e1;subst e2;subst e3;subst e4;subst e5;subst e6;subst e7;subst e8;subst e9;exact ⟨⟨k,no,gen,no2,gen2,nm,nm2,pl,n,data⟩,rfl,s5,s6,s9⟩
theorem open_c11 {H:Type} {enc:TypeId × Value->H} {w:World} {n:Nat} {cs:List Value} {d:DataW H} {pl:List MemPlace} (hl:cs.length = 11) (h:DataW.trod enc Tryz.prog w 0 (fun _=>true) true n 32 cs = some (d,pl)):∃ x:Doc,cs = cDo x/\fits x.2:=by
 obtain ⟨y0,y1,m,_,_,g0,g1⟩:=trod_struct2 Tryz.underlying32 h
 match cs,hl with
 | [c0,c1,c2,c3,c4,c5,c6,c7,c8,c9,c10],_ =>
  rw [show Tryz.prog.cellsOf 3 = 1 from by kernel_rfl] at g0;rw [show Tryz.prog.cellsOf 30 = 10 from by kernel_rfl] at g1;simp at g0 g1;obtain ⟨cl,e0,_,_⟩:=DataW.trod_int Tryz.underlying3 g0;simp only [List.cons.injEq,and_true] at e0;subst e0;obtain ⟨c,e1,hf⟩:=open_c10 rfl g1;refine ⟨(cl,c),?_,hf⟩;rw [e1];rfl
theorem open_dos {H:Type} {enc:TypeId × Value->H} {w:World} {v:Value} {d:DataW H} {p:List MemPlace} (hv:∃ a len cap,v = .slice a len cap) (h:DataW.Trod enc Tryz.prog w 0 (fun _=>true) true 47 v d p):∃ l:List Doc,AtW EDo w v l/\∀ x∈l,fits x.2:=by
 obtain ⟨a,len,cap,rfl⟩:=hv;obtain ⟨fuel,hf⟩:=h;have:Inhabited Doc:=⟨(0,⟨0,0,0,0,0,.empty,.empty,0,0,.empty⟩)⟩;obtain ⟨l,h1,h2⟩:=open_row EDo Tryz.underlying47 (by kernel_rfl) (by decide) (Q:=fun x _=>fits x.2) (fun n cs d pl hl h=>open_c11 hl h) (by simpa [Value.cells] using hf);refine ⟨l,h1,fun x hx=>?_⟩;rcases h2 with ⟨_,rfl⟩ | ⟨es,sp,_,_,hq⟩
 ·cases hx
 ·obtain ⟨i,hi⟩:=List.mem_iff_getElem?.1 hx;obtain ⟨d,_,hd⟩:=hq i x hi;exact hd
end Go.Proofs.YtneojimodomohaaGreat
