/- NOr0, NOrp, OLeaving, NSm, Law, NOpD, OPlainB, Sb, Sc, Sd, Se, as one. -/
import Derived.Test.YtneojimodomohaaGreatU1
namespace Go.Proofs.YtneojimodomohaaGreat
open It
set_option maxRecDepth 100000
namespace Nf
theorem oname {c:UInt8} (h:c≠46/\c≠47/\c≠0):Nm.ok ⟨#[c]⟩:=by
 refine ⟨by simp [ByteArray.size],by simp [ByteArray.size],fun e=>?_,fun e=>?_,?_⟩
 ·have:#[c] = #[46]:=congrArg ByteArray.data e
  simp at this
  exact h.1 this
 ·have:#[c] = #[46,46]:=congrArg ByteArray.data e
  simp at this
 ·intro i hi _
  have h0:i = 0:=by
   have:i < 1:=hi
   omega
  subst h0
  show c.toNat≠47/\c.toNat≠0
  exact ⟨fun e=>h.2.1 (UInt8.toNat_inj.1 e),fun e=>h.2.2 (UInt8.toNat_inj.1 e)⟩
theorem dir_none {nx:Int} (h:0<=nx/\nx<=1099511627776):Fo.Right [] nx:=⟨h,fun i hi=>by simp at hi,by simp [Fo.apart]⟩
theorem dir_one {s:ByteArray} {no:Int} (hs:Nm.ok s) (hn:0<=no/\no<=23):Fo.Right [(s,1,no,1)] 1:=by
 refine ⟨by omega,fun i hi=>?_,by simp [Fo.apart]⟩
 have:i = 0:=by simp at hi;exact hi
 subst this
 intro x hx
 simp at hx
 subst hx
 exact ⟨hs,by simp [Fo.lastC],hn,by show (1:Int)<=1;decide,by show (1:Int)<=1099511627776;decide⟩
theorem st_fine {L:List Ino} {st:Int} (h:Sp.isSp L = true) (ht:Sp.top L<=st/\st<=1099511627776):Sp.stErr (Sp.chk Sp.isSp) L st = 0:=by
 unfold Sp.stErr Sp.chk
 rw [if_pos h,if_pos rfl,if_pos ht]
theorem free_name {L:List Ino} {a b nx:Int} {s:ByteArray} {es:List Ent} (hd:Sp.dirErr L a b = 0) (he:Sp.dirEnts L a b = es) (hn:Sp.dirNext L a b = nx) (hr:Fo.Right es nx) (hs:Nm.ok s) (ha:Fo.at' (Fo.called s) es = -1):Sp.nameErr L a b s = 0/\∀ no gen,Ho no gen->nx≠1099511627776->Fo.addErr es nx s no gen = 0:=by
 have hk:Fo.ask es nx s = 0:=by rw [Fo.ask_right (Fo.err_ok hr),Nm.err_ok hs]
 have hf:=(Fo.findErr_miss hk ha).1
 have hl:Sp.lookErr L a b s = 402:=by unfold Sp.lookErr;rw [if_pos hd,he,hn,hf]
 refine ⟨by unfold Sp.nameErr;rw [hl];rfl,fun no gen ho hm=>Fo.add_ok hk ho ha hm⟩
theorem hit_name {L:List Ino} {a b nx:Int} {s:ByteArray} {es:List Ent} {k:Nat} {x:Ent} (hd:Sp.dirErr L a b = 0) (he:Sp.dirEnts L a b = es) (hn:Sp.dirNext L a b = nx) (hr:Fo.Right es nx) (hs:Nm.ok s) (ha:Fo.at' (Fo.called s) es = k) (hx:es[k]? = some x):Sp.lookErr L a b s = 0/\Sp.lookH L a b s = x.2.2/\Fo.plc es nx s = k:=by
 have hk:Fo.ask es nx s = 0:=by rw [Fo.ask_right (Fo.err_ok hr),Nm.err_ok hs]
 have hf:Fo.findErr es nx s = 0:=by unfold Fo.findErr;rw [if_pos hk,if_neg (by rw [ha];omega)]
 have hp:Fo.plc es nx s = k:=by unfold Fo.plc;rw [if_pos hf,ha]
 refine ⟨by unfold Sp.lookErr;rw [if_pos hd,he,hn,hf],?_,hp⟩
 unfold Sp.lookH
 rw [if_pos hd,he,hn,Fo.found_hit hf hp hx]
theorem at_first {s t:ByteArray} {c no g:Int} (h:s = t):Fo.at' (Fo.called s) [(t,c,no,g)] = (0:Nat):=Fo.at_hit (x:=(t,c,no,g)) rfl (by subst h;simp [Fo.called]) (fun j y hj=>by omega)
theorem right_mk {L:List Ino} {O:List Os.Opn} {dn:Int} (h:Sp.isSp L = true) (h2:(Os.Op.right 0 O && (filesOk L O && (decide (allBytes L<=8192) && doneOk L dn))) = true):right L O dn = true:=by
 unfold right
 rw [h,h2]
 rfl
theorem ref_fine {L:List Ino} {O:List Os.Opn} {dn cl:Int} (h:right L O dn = true) (hd:dn≠1099511627776) (hc:0<=cl/\cl<=1099511627776):refE L O dn cl = 0:=by
 unfold refE
 rw [if_pos h,if_neg hd,if_pos hc]
theorem do_fine {L:List Ino} {O:List Os.Opn} {dn cl:Int} {c:Cal} (h:refE L O dn cl = 0) (hc:Ks.Ak.right c = true):doR L O dn cl c = rep L O (dn + 1) cl c/\doT L O dn cl c = tab L O (dn + 1) cl c/\doO L O dn cl c = ops L O cl c/\doD L O dn cl = dn + 1:=by
 unfold doR doT doO doD
 rw [if_pos h,if_pos h,if_pos h,if_pos h,if_pos hc,if_pos hc,if_pos hc]
 exact ⟨rfl,rfl,rfl,rfl⟩
abbrev xA:ByteArray:=⟨#[97]⟩
abbrev xX:ByteArray:=⟨#[120]⟩
abbrev e0:ByteArray:=⟨#[]⟩
theorem okA:Nm.ok xA:=oname (by decide)
def F1:List Ino:=[⟨1,2,1,1,1,[],[(xA,1,1,1)],1⟩,⟨1,1,1,0,1,[],[],0⟩]
def F3:List Ino:=[⟨1,2,1,0,3,[],[],1⟩,⟨1,1,0,0,3,[],[],0⟩]
def F4:List Ino:=[⟨1,2,1,0,3,[],[],1⟩,⟨1,1,0,1,4,[(0,xX)],[],0⟩]
def F5:List Ino:=[⟨1,2,1,0,3,[],[],1⟩,⟨1,0,0,0,0,[],[],0⟩]
abbrev O1:List Os.Opn:=[(0,5,1,1)]
abbrev c1:Cal:=⟨3,0,1,0,0,xA,e0,0,0,e0⟩
abbrev c2:Cal:=⟨13,1,1,0,0,e0,e0,0,0,e0⟩
abbrev c3:Cal:=⟨9,0,1,0,0,xA,e0,0,0,e0⟩
abbrev c4:Cal:=⟨6,1,1,0,0,e0,e0,0,0,xX⟩
abbrev c5:Cal:=⟨14,0,0,0,0,e0,e0,0,0,e0⟩
abbrev c6:Cal:=⟨5,1,1,0,0,e0,e0,0,1,e0⟩
theorem folds_new:Sp.folds new:=fun x hx=>by
 simp [new,fresh] at hx
 subst hx
 exact fun _=>⟨dir_none (by decide),rfl⟩
theorem isSp_new:Sp.isSp new = true:=Sp.isSp_iff.2 ⟨by decide,folds_new,by decide,by decide⟩
theorem folds_F1:Sp.folds F1:=fun x hx=>by
 simp [F1] at hx
 rcases hx with rfl | rfl
 ·exact fun _=>⟨dir_one okA (by decide),rfl⟩
 ·intro h
  cases h
theorem isSp_F1:Sp.isSp F1 = true:=Sp.isSp_iff.2 ⟨by decide,folds_F1,by decide,by decide⟩
theorem folds_F3:Sp.folds F3:=fun x hx=>by
 simp [F3] at hx
 rcases hx with rfl | rfl
 ·exact fun _=>⟨dir_none (by decide),rfl⟩
 ·intro h
  cases h
theorem isSp_F3:Sp.isSp F3 = true:=Sp.isSp_iff.2 ⟨by decide,folds_F3,by decide,by decide⟩
theorem folds_F4:Sp.folds F4:=fun x hx=>by
 simp [F4] at hx
 rcases hx with rfl | rfl
 ·exact fun _=>⟨dir_none (by decide),rfl⟩
 ·intro h
  cases h
theorem isSp_F4:Sp.isSp F4 = true:=Sp.isSp_iff.2 ⟨by decide,folds_F4,by decide,by decide⟩
theorem folds_F5:Sp.folds F5:=fun x hx=>by
 simp [F5] at hx
 rcases hx with rfl | rfl
 ·exact fun _=>⟨dir_none (by decide),rfl⟩
 ·intro h
  cases h
theorem isSp_F5:Sp.isSp F5 = true:=Sp.isSp_iff.2 ⟨by decide,folds_F5,by decide,by decide⟩
theorem right_new:right new [] 0 = true:=right_mk isSp_new (by decide +kernel)
theorem right_1:right F1 [] 1 = true:=right_mk isSp_F1 (by decide +kernel)
theorem right_2:right F1 O1 2 = true:=right_mk isSp_F1 (by decide +kernel)
theorem right_3:right F3 O1 3 = true:=right_mk isSp_F3 (by decide +kernel)
theorem right_4:right F4 O1 4 = true:=right_mk isSp_F4 (by decide +kernel)
theorem right_5:right F5 [] 5 = true:=right_mk isSp_F5 (by decide +kernel)
theorem mk_1:Sp.mkE (Sp.chk Sp.isSp) new 0 1 xA 1 1 = 0/\Sp.mkT (Sp.chk Sp.isSp) new 0 1 xA 1 1 = F1/\Sp.mkH (Sp.chk Sp.isSp) new 0 1 xA 1 1 = (1,1):=by
 obtain ⟨h1,h2⟩:=free_name (L:=new) (a:=0) (b:=1) (s:=xA) (es:=[]) (nx:=0) (by decide) (by decide) (by decide) (dir_none (by decide)) okA (by decide)
 have h3:Sp.makeErr (Sp.chk Sp.isSp) new 0 1 xA 1 1 = 0:=by unfold Sp.makeErr;rw [if_pos (st_fine isSp_new (by decide)),if_pos (by decide),h1]
 have h4:It.makeErr new 1 1 = 0:=by decide
 have h5:makeH new 1 1 = (1,1):=by decide
 have hE:Sp.mkE (Sp.chk Sp.isSp) new 0 1 xA 1 1 = 0:=by
  unfold Sp.mkE
  rw [if_pos h3,if_pos h4,h5,show Sp.dirEnts new 0 1 = [] from by decide,show Sp.dirNext new 0 1 = 0 from by decide]
  exact h2 1 1 (by decide) (by decide)
 refine ⟨hE,?_,by unfold Sp.mkH;rw [if_pos hE,h5]⟩
 unfold Sp.mkT
 rw [if_pos hE,h5]
 rfl
theorem step1:doR new [] 0 5 c1 = ⟨0,1,1,1,1,0,1,e0,[],0⟩/\doT new [] 0 5 c1 = F1/\doO new [] 0 5 c1 = []/\doD new [] 0 5 = 1:=by
 obtain ⟨h1,h2,h3,h4⟩:=do_fine (c:=c1) (ref_fine (cl:=5) right_new (by decide) (by decide)) (by decide)
 obtain ⟨m1,m2,m3⟩:=mk_1
 refine ⟨?_,?_,?_,h4⟩
 ·rw [h1,show rep new [] (0 + 1) 5 c1 = makeP new c1 1 1 from by simp [rep]]
  unfold makeP told
  rw [m1,m2,m3,if_pos rfl]
  rfl
 ·rw [h2,show tab new [] (0 + 1) 5 c1 = makeT new c1 1 1 from by simp [tab]]
  unfold makeT
  rw [m1,m2,if_pos rfl]
 ·rw [h3]
  simp [ops]
theorem step2:doR F1 [] 1 5 c2 = ⟨0,0,0,0,0,0,0,e0,[],0⟩/\doT F1 [] 1 5 c2 = F1/\doO F1 [] 1 5 c2 = O1/\doD F1 [] 1 5 = 2:=by
 obtain ⟨h1,h2,h3,h4⟩:=do_fine (c:=c2) (ref_fine (cl:=5) right_1 (by decide) (by decide)) (by decide)
 have ho:opE F1 [] 5 c2 = 0:=by decide
 refine ⟨?_,?_,?_,h4⟩
 ·rw [h1,show rep F1 [] (1 + 1) 5 c2 = openP F1 [] 5 c2 from by simp [rep]]
  unfold openP opN
  rw [ho,if_pos rfl]
  rfl
 ·rw [h2]
  simp [tab]
 ·rw [h3,show ops F1 [] 5 c2 = (if opE F1 [] 5 c2 = 0 then Os.Op.opened [] 5 1 1 else []) from by simp [ops],if_pos ho]
  decide
theorem ul_3:Sp.ulE (Sp.chk Sp.isSp) F1 0 1 xA 3 = 0/\Sp.ulT (Sp.chk Sp.isSp) F1 0 1 xA 3 = F3/\Sp.ulH (Sp.chk Sp.isSp) F1 0 1 xA 3 = (1,1):=by
 obtain ⟨h1,h2,h3⟩:=hit_name (L:=F1) (a:=0) (b:=1) (s:=xA) (es:=[(xA,1,1,1)]) (nx:=1) (k:=0) (x:=(xA,1,1,1)) (by decide) (by rfl) (by decide) (dir_one okA (by decide)) okA (at_first rfl) rfl
 have hs:=st_fine (st:=3) isSp_F1 (by decide)
 have ht:Sp.toErr (Sp.chk Sp.isSp) F1 3 0 1 xA = 0:=by unfold Sp.toErr;rw [if_pos hs,h1]
 have hh:Sp.toH (Sp.chk Sp.isSp) F1 3 0 1 xA = (1,1):=by unfold Sp.toH;rw [if_pos hs,h2]
 have hE:Sp.ulE (Sp.chk Sp.isSp) F1 0 1 xA 3 = 0:=by
  unfold Sp.ulE
  rw [if_pos ht,hh]
  rfl
 refine ⟨hE,?_,by unfold Sp.ulH;rw [if_pos hE,hh]⟩
 unfold Sp.ulT
 rw [if_pos hE,hh]
 unfold Sp.lessDir
 rw [show findI F1 0 1 = ⟨1,2,1,1,1,[],[(xA,1,1,1)],1⟩ from by rfl]
 dsimp only
 rw [h3]
 rfl
theorem step3:doR F1 O1 2 5 c3 = bad 0/\doT F1 O1 2 5 c3 = F3/\doO F1 O1 2 5 c3 = O1/\doD F1 O1 2 5 = 3:=by
 obtain ⟨h1,h2,h3,h4⟩:=do_fine (c:=c3) (ref_fine (cl:=5) right_2 (by decide) (by decide)) (by decide)
 obtain ⟨m1,m2,m3⟩:=ul_3
 have hn:needB F3 O1 (1,1) = true:=by decide
 refine ⟨?_,?_,?_,h4⟩
 ·rw [h1,show rep F1 O1 (2 + 1) 5 c3 = bad (unE F1 O1 0 1 xA 3) from by simp [rep]]
  unfold unE reE
  rw [if_pos m1,m2,m3,if_pos hn]
 ·rw [h2,show tab F1 O1 (2 + 1) 5 c3 = unT F1 O1 0 1 xA 3 from by simp [tab]]
  unfold unT reT
  rw [if_pos m1,m2,m3,if_pos hn]
 ·rw [h3]
  simp [ops]
theorem step4:doR F3 O1 3 5 c4 = ⟨0,0,0,1,0,1,4,e0,[],0⟩/\doT F3 O1 3 5 c4 = F4/\doO F3 O1 3 5 c4 = O1/\doD F3 O1 3 5 = 4:=by
 obtain ⟨h1,h2,h3,h4⟩:=do_fine (c:=c4) (ref_fine (cl:=5) right_3 (by decide) (by decide)) (by decide)
 have hf:fndE F3 1 1 1 405 = 0:=by decide
 have hi:findI F3 1 1 = ⟨1,1,0,0,3,[],[],0⟩:=by rfl
 have hw:Bs.Bl.wErr [] 0 xX = 0:=by decide
 have hx:wrX ⟨1,1,0,0,3,[],[],0⟩ c4 4 = ⟨1,1,0,1,4,[(0,xX)],[],0⟩:=by
  unfold wrX wrN wrO
  rfl
 have hr:¬ 8192 < room F3 ⟨1,1,0,0,3,[],[],0⟩ c4:=by decide +kernel
 have hp:putErr F3 1 1 ⟨1,1,0,1,4,[(0,xX)],[],0⟩ = 0:=by decide
 refine ⟨?_,?_,?_,h4⟩
 ·rw [h1,show rep F3 O1 (3 + 1) 5 c4 = wrP F3 c4 4 from by simp [rep]]
  unfold wrP
  rw [hi,hx,hp,if_neg (by rw [hf];decide),if_neg (by decide),if_neg (by rw [hw];decide),if_neg (by decide),if_neg hr]
 ·rw [h2,show tab F3 O1 (3 + 1) 5 c4 = wrT F3 c4 4 from by simp [tab]]
  unfold wrT ptT
  rw [hi,hx,if_neg (by rw [hf];decide),if_neg (by decide),if_neg (by rw [hw];decide),if_neg (by decide),if_neg hr,if_pos hp]
  rfl
 ·rw [h3]
  simp [ops]
theorem step5:doR F4 O1 4 5 c5 = bad 0/\doT F4 O1 4 5 c5 = F5/\doO F4 O1 4 5 c5 = []/\doD F4 O1 4 5 = 5:=by
 obtain ⟨h1,h2,h3,h4⟩:=do_fine (c:=c5) (ref_fine (cl:=5) right_4 (by decide) (by decide)) (by decide)
 have hc:Os.Op.closeErr O1 5 0 = 0:=by decide
 have hd:Os.Op.closed O1 5 0 = []:=by decide
 have ho:Os.Op.closeOf O1 5 0 = (1,1):=by decide
 have hn:needB F4 [] (1,1) = false:=by decide
 have hp:dropErr F4 1 1 = 0:=by decide
 refine ⟨?_,?_,?_,h4⟩
 ·rw [h1,show rep F4 O1 (4 + 1) 5 c5 = bad (clE F4 O1 5 0) from by simp [rep]]
  unfold clE reE
  rw [if_pos hc,hd,ho,hn,hp]
  rfl
 ·rw [h2,show tab F4 O1 (4 + 1) 5 c5 = clT F4 O1 5 0 from by simp [tab]]
  unfold clT reT
  rw [if_pos hc,hd,ho,hn,hp]
  rfl
 ·rw [h3,show ops F4 O1 5 c5 = (if Os.Op.closeErr O1 5 0 = 0 then Os.Op.closed O1 5 0 else O1) from by simp [ops],if_pos hc,hd]
theorem step6:(doR F5 [] 5 5 c6).e = 401/\doD F5 [] 5 5 = 6:=by
 obtain ⟨h1,h2,h3,h4⟩:=do_fine (c:=c6) (ref_fine (cl:=5) right_5 (by decide) (by decide)) (by decide)
 refine ⟨?_,h4⟩
 rw [h1,show rep F5 [] (5 + 1) 5 c6 = readP F5 c6 from by simp [rep]]
 show rdE F5 c6 = 401
 unfold rdE
 rw [if_neg (by decide)]
 decide
end Nf
end Go.Proofs.YtneojimodomohaaGreat
namespace Go.Proofs.YtneojimodomohaaGreat
open Go.ChangeShapes Go.WideShapes Go.ChangeAt Go.RowKit Go.Deep It
set_option maxRecDepth 100000
theorem do_step {S:Nat->Prop} {vi vo:Value} {sp:Option Addr} {sn sc:Nat} {dn cl:Int} {c:Cal} {L:List Rw} {O:List Os.Opn} {w:World} (hv:TabAt S w vi L) (ho:At Os.EO S w vo O) (hok:Sp.okN L) (hc:c.nm.size<=maxLen/\c.nm2.size<=maxLen/\c.data.size<=maxLen) {R:Nf.Rpl} {T:List Ino} {Q:List Os.Opn} {D:Int} (hR:Nf.doR (pl L) O dn cl c = R) (hT:Nf.doT (pl L) O dn cl c = T) (hQ:Nf.doO (pl L) O dn cl c = Q) (hD:Nf.doD (pl L) O dn cl = D) :
  Calls Tryz.prog 11 #[VSt vi vo (.slice sp sn sc) dn,.int .i64 cl,Ks.VC c] w fun e w'=>∃ ep en ec up un uc op on oc L',e = .returned (.tuple #[VSt (.slice up un uc) (.slice op on oc) (.slice sp sn sc) D,VR R (.slice ep en ec)])/\TabAt (fun b=>S b∨w.heap.size<=b) w' (.slice up un uc) L'/\pl L' = T/\At Os.EO (fun b=>S b∨w.heap.size<=b) w' (.slice op on oc) Q/\At EE (fun b=>S b∨w.heap.size<=b) w' (.slice ep en ec) R.ents/\Below w.heap.size w w':=by
 refine (ndo_any vi vo sp sn sc dn cl c L O w hv ho hok hc.1 hc.2.1 hc.2.2).mono ?_
 rintro e w' ⟨u,uo,ve,L',h1,h2,h3,h4,h5,h6⟩
 rw [hR,hD] at h1
 rw [hT] at h3
 rw [hQ] at h4
 rw [hR] at h5
 obtain ⟨up,uc,hu,-,-⟩:=h2.open
 obtain ⟨op,oc,hu2,-,-⟩:=h4.open
 obtain ⟨ep,ec,hu3,-,-⟩:=h5.open
 subst hu hu2 hu3
 exact ⟨_,_,_,_,_,_,_,_,_,L',h1,h2,h3,h4,h5,h6⟩
set_option maxHeartbeats 2000000 in
theorem nnew_any (w:World):Calls Tryz.prog 17 #[] w fun e w'=>∃ ap n cp L,e = .returned (VSt (.slice ap n cp) (.slice none 0 0) (.slice none 0 0) 0)/\TabAt (fun b=>w.heap.size<=b) w' (.slice ap n cp) L/\pl L = It.new/\Below w.heap.size w w':=by
 obtain ⟨W,hW⟩:∃ W,W = w.alloc BS0:=⟨_,rfl⟩
 have HB0:Hid (Below w.heap.size w W):=by show Below w.heap.size w W;rw [hW];exact (Below.refl _ w).alloc (Nat.le_refl _) _
 have HA0:Hid (W.heap[w.heap.size]? = some BS0):=by show W.heap[w.heap.size]? = _;rw [hW];exact heap_alloc_new _ _
 have hwW:w.heap.size < W.heap.size:=(qL HA0.out)
 go_enter Tryz.func17,Tryz.ntmps17
 go_wp2_with fail
 rw [← hW]
 clear hW
 refine (new_any W).mono ?_
 rintro e w1 ⟨u,L,rfl,ht,hp,hb⟩
 obtain ⟨ap,cp,hu,-,-⟩:=ht.open
 obtain ⟨n,hn⟩:∃ n,L.length = n:=⟨_,rfl⟩
 rw [hn] at hu
 subst hu
 have HT1:Hid (TabAt (fun b=>w.heap.size < b) w1 (.slice ap n cp) L):=ht.imp (fun b hb _=>by omega)
 have HP1:Hid (pl L = It.new):=hp
 have HB1:=qJ HB0 hb
 have HA1:Hid (w1.heap[w.heap.size]? = some BS0):=(hb.block _ hwW).trans HA0.out
 obtain ⟨f0,f1,f2,f3⟩:=st_of HA1.out
 have ff:=fr_at HA1.out
 clear ht hp hb hn
 go_wp2
 (try simp only [Exit.inBlock,Exit.then])
 refine bodyPost_ret (v:=VSt (.slice ap n cp) (.slice none 0 0) (.slice none 0 0) 0) ?_ rfl ⟨ap,n,cp,L,rfl,?_,HP1.out,?_⟩
 ·rw [results_cell1 rfl]
  go_simp
 ·exact (setCells_tab (A:=w.heap.size) (S:=fun b=>w.heap.size < b) (by omega) (cS (.slice ap n cp) (.slice none 0 0) (.slice none 0 0) 0) 0 w1 HT1.out).imp (fun b hb _=>by omega)
 ·exact setCells_below (Nat.le_refl _) (cS (.slice ap n cp) (.slice none 0 0) (.slice none 0 0) 0) 0 w1 HB1.out
end Go.Proofs.YtneojimodomohaaGreat
namespace Go.Proofs.YtneojimodomohaaGreat.Os
open Go.ChangeShapes Go.WideShapes Go.ChangeAt Go.RowKit Go.Deep
set_option maxRecDepth 100000
def EI:Enc Int:=⟨1,fun x=>[.int .i64 x],fun _=>rfl,fun x u hu=>by
  simp at hu
  subst hu
  rfl⟩
end Go.Proofs.YtneojimodomohaaGreat.Os
namespace Go.Proofs.YtneojimodomohaaGreat
open Go.ChangeShapes Go.WideShapes Go.ChangeAt Go.RowKit Go.Deep It
set_option maxRecDepth 100000
theorem two_st (w:World) (x y:Obj):Below w.heap.size w ((w.alloc x).alloc y):=((Below.refl _ _).alloc (Nat.le_refl _) _).alloc (by simp) _
end Go.Proofs.YtneojimodomohaaGreat
namespace Go.Proofs.YtneojimodomohaaGreat
set_option maxRecDepth 100000
namespace Law
open Go.ChangeShapes Go.WideShapes Go.ChangeAt Go.RowKit
theorem below_trodAll {H:Type} {enc:TypeId × Value->H} {P:Program} {W W':World} (hl:laidOutB P = true) (hb:Below W.heap.size W W') :
    ∀ (ts : List TypeId) (vs : List Value) (ds : List (DataW H)) (p : List MemPlace), (∀ t ∈ ts, P.readableRec t = true ∧ t < P.types.size) → (∀ x ∈ p, x.block < W.heap.size) →
      DataW.TrodAll enc P W 0 (fun _=>true) true ts vs ds p->DataW.TrodAll enc P W' 0 (fun b=>decide (b < W.heap.size)) true ts vs ds p
  | [],[],[],_,_,_,h=>h
  | t :: ts, v :: vs, d :: ds, p, hts, hlt, h => by
    obtain ⟨p0,q,h0,hq,rfl⟩:=h
    have ht:=hts t (by simp)
    exact ⟨p0,q,Below.trod hl ht.1 ht.2 h0 hb (fun x hx=>hlt x (by simp [hx])),below_trodAll hl hb ts vs ds q (fun u hu=>hts u (by simp [hu])) (fun x hx=>hlt x (by simp [hx])) hq,rfl⟩
theorem post {H:Type} {enc:TypeId × Value->H} {P:Program} {f:Func} {s:ChangeSpec} {tb:TypeId} {W W':World} {args:Array Value} {ds gs:List (DataW H)} {before:List MemPlace}
    (hl:laidOutB P = true) (hts:f.params.toList.all (fun t=>P.readableRec t && decide (t < P.types.size)) = true) (hrt:f.resultTypes = #[tb]) (hub:P.underlying tb = some .bool)
    (hW:DataW.Whole enc P f.params.toList s.vars false W args.toList ds gs before) (hv:s.vars = [])
    (hspec:s.fn H (ds ++ gs) = { results:=[.lit (.bool true)],args:=ds }) (hb:Below W.heap.size W W') :
    s.post enc P f false true false false W args (.bool true) W':=by
  have hW':=hW
  obtain ⟨p,q,hA,hV,rfl,hfz,hnd⟩:=hW
  rw [hv] at hV
  obtain ⟨rfl,rfl⟩:=trodVars_none hV
  have hlt:∀ x∈p,x.block < W.heap.size:=fun x hx=>by simpa using hW'.lt x (by simpa using hx)
  refine ⟨ds,[],p ++ [],[],p,[],hW',?_,?_,?_,hb.frame _,fun h=>by cases h⟩
  · rw [hspec, hrt]
    exact trodAll_mk1 (shut_bool hub _)
  · rw [hspec]
    refine below_trodAll hl hb _ _ _ _ (fun t ht=>?_) hlt hA
    have:=List.all_eq_true.1 hts t ht
    simpa using this
  · rw [hspec, hv]
    rfl
end Law
end Go.Proofs.YtneojimodomohaaGreat
namespace Go.Proofs.YtneojimodomohaaGreat
open Go.ChangeShapes Go.WideShapes Go.ChangeAt Go.RowKit Go.Deep It
set_option maxRecDepth 100000
def fits (c:Cal):Prop:=c.nm.size<=maxLen/\c.nm2.size<=maxLen/\c.data.size<=maxLen
end Go.Proofs.YtneojimodomohaaGreat
namespace Go.Proofs.YtneojimodomohaaGreat.Os
set_option maxRecDepth 100000
namespace Op
theorem right_iff:∀ (l:List Opn) (t:Int),right t l = true ↔ (∀ x∈l,good t x)/\l.Pairwise (fun a b=>a.1 < b.1)
 | [],t=>by simp [right]
 | x :: r, t => by
  rw [right,Bool.and_eq_true,decide_eq_true_iff,right_iff r,List.pairwise_cons]
  constructor
  ·rintro ⟨h1,h2,h3⟩
   refine ⟨fun y hy=>?_,fun y hy=>?_,h3⟩
   ·rcases List.mem_cons.1 hy with rfl | hy
    ·exact h1
    ·have:=h2 y hy
     exact ⟨⟨by have:=this.1.1;have:=h1.1.1;omega,this.1.2⟩,this.2⟩
   ·have:=(h2 y hy).1.1
    omega
  ·rintro ⟨h1,h2,h3⟩
   refine ⟨h1 x (by simp),fun y hy=>?_,h3⟩
   have:=h1 y (by simp [hy])
   have:=h2 y hy
   exact ⟨⟨by omega,(h1 y (by simp [hy])).1.2⟩,(h1 y (by simp [hy])).2⟩
theorem low_mem {l:List Opn} {y:Opn} (hy:y∈l.take (least 0 l)):y.1 < (least 0 l:Int):=by
 obtain ⟨j,hj⟩:=List.mem_iff_getElem?.1 hy
 have hjL:j < least 0 l:=by have:=(qM hj);simp at this;omega
 rw [List.getElem?_take_of_lt hjL] at hj
 have:=low_fd hjL hj
 omega
theorem high_mem {l:List Opn} (hr:right 0 l = true) {y:Opn} (hy:y∈l.drop (least 0 l)):(least 0 l:Int) < y.1:=by
 obtain ⟨j,hj⟩:=List.mem_iff_getElem?.1 hy
 rw [List.getElem?_drop] at hj
 exact least_high hr (by omega) hj
section
variable {l:List Opn} {c no gen:Int} (he:openErr l c no gen = 0)
include he
theorem op_facts:ask l c = 0/\right 0 l = true/\Cl c/\Ho no gen/\l.length < 16/\opened l c no gen = l.take (least 0 l) ++ [((least 0 l:Int),c,no,gen)] ++ l.drop (least 0 l)/\openFd l c no gen = (least 0 l:Int):=by
 rcases open_or l c no gen with ⟨_,ha,hr,hc,ho,hl⟩ | ⟨h,ha⟩ | ⟨h,_,_⟩ | ⟨h,_,_,_,_⟩
 ·exact ⟨ha,hr,hc,ho,hl,if_pos he,if_pos he⟩
 ·rw [he] at h
  exact absurd h.symm ha
 ·rw [he] at h
  cases h
 ·rw [he] at h
  cases h
theorem op_right:right 0 (opened l c no gen) = true:=by
 obtain ⟨-,hr,hc,ho,hl,hp,-⟩:=op_facts he
 have hlt:=least_in l
 rw [hp,right_iff]
 obtain ⟨h1,h2⟩:=(right_iff l 0).1 hr
 have hpw:(l.take (least 0 l) ++ l.drop (least 0 l)).Pairwise (fun a b:Opn=>a.1 < b.1):=by rw [List.take_append_drop];exact h2
 obtain ⟨p1,p2,p3⟩:=List.pairwise_append.1 hpw
 refine ⟨fun x hx=>?_,?_⟩
 ·simp only [List.mem_append,List.mem_singleton] at hx
  rcases hx with (hx | rfl) | hx
  ·exact h1 x (List.mem_of_mem_take hx)
  ·exact ⟨⟨by simp,by simp;omega⟩,hc,ho⟩
  ·exact h1 x (List.mem_of_mem_drop hx)
 ·rw [List.pairwise_append,List.pairwise_append]
  refine ⟨⟨p1,by simp,fun a ha b hb=>?_⟩,p2,fun a ha b hb=>?_⟩
  ·simp at hb
   subst hb
   exact low_mem ha
  ·rcases List.mem_append.1 ha with ha | ha
   ·exact p3 a ha b hb
   ·simp at ha
    subst ha
    exact high_mem hr hb
end
end Op
end Go.Proofs.YtneojimodomohaaGreat.Os
namespace Go.Proofs.YtneojimodomohaaGreat
open It Go.RowKit
set_option maxRecDepth 100000
set_option maxRecDepth 100000
namespace Nf
theorem wrap_id {x:Int} (h:0<=x/\x<=9223372036854775807):wrap64 x = x:=by
 unfold wrap64
 omega
theorem br:∀ (l:List (Int × ByteArray)) (a:Int),Bs.Bl.right a l ↔ Bl.right a l
 | [],_=>Iff.rfl
 | _ :: l,_=>and_congr Iff.rfl (br l _)
theorem ble:∀ (l:List (Int × ByteArray)) (a:Int),Bs.Bl.lastEnd a l = Bl.lastEnd a l
 | [],_=>rfl
 | _ :: l,_=>ble l _
theorem bend (l:List (Int × ByteArray)):Bs.Bl.endOf l = Bl.endOf l:=by
 unfold Bs.Bl.endOf Bl.endOf
 by_cases h:Bl.right (-1) l
 ·rw [if_pos h,if_pos ((br l _).2 h),ble]
 ·rw [if_neg h,if_neg (fun h2=>h ((br l _).1 h2))]
abbrev tot (l:List (Int × ByteArray)):Nat:=Bs.Bl.total l
theorem tot_le {l:List (Int × ByteArray)} (h:Bl.right (-1) l):(tot l:Int)<=1048577:=by
 have:(tot l:Int) + l.length<=_:=Bs.Bl.right_total ((br l _).2 h) (by decide)
 have e:Bs.Bl.MAX = 1048576:=rfl
 omega
theorem sumw_go:∀ (l:List (Int × ByteArray)) (y:Int),0<=y->y + (tot l:Int)<=9223372036854775807->l.foldl (fun y r=>wrap64 (y + (r.2.size:Int))) y = y + (tot l:Int)
 | [],y,_,_=>by simp [Bs.Bl.total]
 | r :: l,y,h0,h=>by
  have e:tot (r :: l) = r.2.size + tot l:=by simp [Bs.Bl.total]
  rw [e] at h ⊢
  rw [List.foldl_cons,wrap_id (by omega),sumw_go l _ (by omega) (by omega)]
  omega
theorem sumw_tot {l:List (Int × ByteArray)} (h:Bl.right (-1) l):Bl.sumw l = (tot l:Int):=by
 have:=tot_le h
 unfold Bl.sumw
 rw [sumw_go l 0 (by omega) (by omega)]
 omega
theorem runs_right {x:Ino} (h:one x = true):Bl.right (-1) x.runs:=by
 unfold one at h
 simp only [Bool.and_eq_true] at h
 have h3:=h.2.2
 split at h3
 ·rw [List.isEmpty_iff.1 h3];trivial
 ·split at h3
  ·simp only [Bool.and_eq_true,decide_eq_true_eq] at h3
   exact h3.1.2
  ·simp only [Bool.and_eq_true] at h3
   rw [List.isEmpty_iff.1 h3.2];trivial
theorem runs_nil {x:Ino} (h:one x = true) (hk:x.kind≠1):x.runs = []:=by
 unfold one at h
 simp only [Bool.and_eq_true] at h
 have h3:=h.2.2
 split at h3
 ·exact List.isEmpty_iff.1 h3
 ·simp only [Bool.and_eq_true] at h3
  exact List.isEmpty_iff.1 h3.2
def By (L:List Ino):Nat:=(L.map fun x=>tot x.runs).sum
theorem By_cons (x:Ino) (L:List Ino):By (x :: L) = tot x.runs + By L:=by simp [By]
theorem all_go:∀ (L:List Ino) (y:Int),(∀ x∈L,Bl.right (-1) x.runs)->0<=y->y + L.length * 1048577<=9223372036854775807->L.foldl (fun y x=>wrap64 (y + Bl.sumw x.runs)) y = y + (By L:Int)
 | [],y,_,_,_=>by simp [By]
 | x :: L,y,hx,h0,h=>by
  have h1:=hx x (by simp)
  have h2:=tot_le h1
  rw [List.length_cons] at h
  rw [List.foldl_cons,sumw_tot h1,wrap_id (by omega),all_go L _ (fun z hz=>hx z (by simp [hz])) (by omega) (by omega),By_cons]
  omega
theorem all_by {L:List Ino} (h:It.right L = true):allBytes L = (By L:Int):=by
 obtain ⟨h1,_,h3⟩:=It.right_iff.1 h
 unfold allBytes
 rw [all_go L 0 (fun x hx=>runs_right (h3 x hx)) (by omega) (by omega)]
 omega
theorem By_set:∀ (L:List Ino) (k:Nat) (x y:Ino),L[k]? = some x->By (L.set k y) + tot x.runs = By L + tot y.runs
 | [],k,x,y,h=>by simp at h
 | z :: L,0,x,y,h=>by
  simp at h
  subst h
  rw [List.set_cons_zero,By_cons,By_cons]
  omega
 | z :: L,k + 1,x,y,h=>by
  have ih:=By_set L k x y (by simpa using h)
  rw [List.set_cons_succ,By_cons,By_cons]
  omega
theorem By_same:∀ (L L':List Ino),L.length<=L'.length->(∀ (i:Nat) (x':Ino),L'[i]? = some x'->(∃ x,L[i]? = some x/\tot x'.runs = tot x.runs)∨(L.length<=i/\tot x'.runs = 0))->By L' = By L
 | [],[],_,_=>rfl
 | [], y :: L', _, h => by
  rw [By_cons,By_same [] L' (by simp) (fun i x' hx=>by
   rcases h (i + 1) x' (by simpa using hx) with ⟨x,hx,_⟩ | h
   ·simp at hx
   ·exact .inr ⟨by simp,h.2⟩)]
  rcases h 0 y rfl with ⟨x,hx,_⟩ | h
  ·simp at hx
  ·rw [h.2];simp [By]
 | x :: L,[],h,_=>by simp at h
 | x :: L, y :: L', hl, h => by
  rw [By_cons,By_cons,By_same L L' (by simpa using hl) (fun i x' hx=>by
   rcases h (i + 1) x' (by simpa using hx) with h | h
   ·left;simpa using h
   ·right;simpa using h)]
  rcases h 0 y rfl with ⟨z,hz,e⟩ | h
  ·simp at hz
   subst hz
   rw [e]
  ·simp at h
def Hl (O:List Os.Opn) (no gen:Int):Prop:=∃ o∈O,o.2.2.1 = no/\o.2.2.2 = gen
theorem held_pos {O:List Os.Opn} {no gen:Int}:0 < Os.Op.held O no gen ↔ Hl O no gen:=by
 unfold Os.Op.held Hl
 rw [List.countP_pos_iff]
 simp
def Fl (L:List Ino) (O:List Os.Opn):Prop:=(∀ o∈O,∃ (i:Nat) (x:Ino),L[i]? = some x/\o.2.2.1 = (i:Int)/\x.gen = o.2.2.2/\x.kind = 1)
def Nd (L:List Ino) (O:List Os.Opn) (q:Nat->Prop):Prop:=∀ (i:Nat) (x:Ino),L[i]? = some x->x.kind = 1->x.links<=0->¬ q i->Hl O i x.gen
theorem mem_files {L:List Ino} {no gen:Int}:(no,gen)∈files L ↔ ∃ (i:Nat) (x:Ino),L[i]? = some x/\no = (i:Int)/\x.gen = gen/\x.kind = 1:=by
 unfold files
 rw [List.mem_filter,mem_used,names_iff]
 constructor
 ·rintro ⟨⟨i,x,hx,rfl,hg,hk⟩,h2⟩
  unfold fileAt at h2
  rw [show ((i:Int),gen).1.toNat = i from by show ((i:Int)).toNat = i;omega,hx] at h2
  exact ⟨i,x,hx,rfl,hg,by simpa using h2⟩
 ·rintro ⟨i,x,hx,rfl,hg,hk⟩
  refine ⟨⟨i,x,hx,rfl,hg,by omega⟩,?_⟩
  unfold fileAt
  rw [show ((i:Int),gen).1.toNat = i from by show ((i:Int)).toNat = i;omega,hx]
  simpa using hk
theorem need_iff {L:List Ino} {O:List Os.Opn} {i:Nat} {x:Ino} (hx:L[i]? = some x):needB L O ((i:Int),x.gen) = true ↔ 0 < x.links∨Hl O i x.gen:=by
 unfold needB linksAt
 rw [show ((i:Int),x.gen).1.toNat = i from by show ((i:Int)).toNat = i;omega,hx]
 simp only [Bool.or_eq_true,decide_eq_true_eq]
 refine or_congr Iff.rfl ?_
 rw [← held_pos]
 omega
theorem filesOk_iff {L:List Ino} {O:List Os.Opn}:filesOk L O = true ↔ Fl L O/\Nd L O (fun _=>False):=by
 unfold filesOk
 rw [Bool.and_eq_true]
 refine and_congr ?_ ?_
 ·rw [Bool.not_eq_true',List.any_eq_false]
  refine forall_congr' fun o=>forall_congr' fun ho=>?_
  simp only [Bool.not_eq_true',decide_eq_false_iff_not,Classical.not_not]
  rw [mem_files]
 ·rw [Bool.not_eq_true',List.any_eq_false]
  constructor
  ·intro h i x hx hk hl _
   have h1:=h ((i:Int),x.gen) (mem_files.2 ⟨i,x,hx,rfl,rfl,hk⟩)
   simp only [Bool.not_eq_true',Bool.not_eq_false] at h1
   rcases (need_iff hx).1 h1 with h2 | h2
   ·omega
   ·exact h2
  ·intro h p hp
   obtain ⟨no,gen⟩:=p
   obtain ⟨i,x,hx,rfl,rfl,hk⟩:=mem_files.1 hp
   simp only [Bool.not_eq_true',Bool.not_eq_false]
   refine (need_iff hx).2 ?_
   by_cases hl:0 < x.links
   ·exact .inl hl
   ·exact .inr (h i x hx hk (by omega) id)
theorem doneOk_iff {L:List Ino} {dn:Int}:doneOk L dn = true ↔ (0<=dn/\dn<=1099511627776)/\∀ x∈L,x.stamp<=dn:=by
 unfold doneOk
 rw [Bool.and_eq_true,decide_eq_true_iff,Bool.not_eq_true',List.any_eq_false]
 simp only [decide_eq_true_eq,Int.not_lt]
structure RX (L:List Ino) (O:List Os.Opn) (dn:Int) (q:Nat->Prop):Prop where
 sp:Sp.isSp L = true
 os:Os.Op.right 0 O = true
 fl:Fl L O
 nd:Nd L O q
 by8:By L<=8192
 dn:(0<=dn/\dn<=1099511627776)/\∀ x∈L,x.stamp<=dn
theorem right_rx {L:List Ino} {O:List Os.Opn} {dn:Int}:right L O dn = true ↔ RX L O dn (fun _=>False):=by
 constructor
 ·intro h
  obtain ⟨h1,h2,h3,h4,h5⟩:=right_open h
  rw [all_by (Sp.isSp_iff.1 h1).1] at h4
  exact ⟨h1,h2,(filesOk_iff.1 h3).1,(filesOk_iff.1 h3).2,by omega,doneOk_iff.1 h5⟩
 ·intro h
  unfold right
  simp only [Bool.and_eq_true,decide_eq_true_eq]
  refine ⟨h.sp,h.os,filesOk_iff.2 ⟨h.fl,h.nd⟩,?_,doneOk_iff.2 h.dn⟩
  rw [all_by (Sp.isSp_iff.1 h.sp).1]
  have:=h.by8
  omega
end Nf
namespace Nf
def Kin (st:Int) (q:Prop) (P:Ent->Prop) (x x':Ino):Prop :=
 (x'.gen = x.gen/\x'.kind = x.kind/\x'.runs = x.runs/\(x.kind = 1->x'.size = x.size)/\(x'.stamp = x.stamp∨x'.stamp = st)/\(x.links<=x'.links∨q)/\∀ e∈x.ents,e∈x'.ents∨P e)∨(x.kind = 2/\x.ents = []/\x' = gone x.gen)∨(x.kind = 0/\∃ g k,x' = fresh g k st)
theorem kin_self {st:Int} {q:Prop} {P:Ent->Prop} (x:Ino):Kin st q P x x:=.inl ⟨rfl,rfl,rfl,fun _=>rfl,.inl rfl,.inl (Int.le_refl _),fun _ h=>.inl h⟩
structure Chg (L L':List Ino) (st:Int) (kt:Nat) (P:Ent->Prop):Prop where
 sp:Sp.isSp L' = true
 len:L.length<=L'.length
 old:∀ (i:Nat) (x:Ino),L[i]? = some x->∃ x',L'[i]? = some x'/\Kin st (i = kt) P x x'
 new:∀ (i:Nat) (x':Ino),L.length<=i->L'[i]? = some x'->∃ g k,x' = fresh g k st
theorem Chg.back {L L':List Ino} {st:Int} {kt:Nat} {P:Ent->Prop} (c:Chg L L' st kt P) {i:Nat} {x':Ino} (h:L'[i]? = some x'):(∃ x,L[i]? = some x/\Kin st (i = kt) P x x')∨(L.length<=i/\∃ g k,x' = fresh g k st):=by
 by_cases hi:L.length<=i
 ·exact .inr ⟨hi,c.new i x' hi h⟩
 ·left
  have hx:L[i]? = some L[i]:=List.getElem?_eq_getElem (by omega)
  obtain ⟨y,hy,hk⟩:=c.old i _ hx
  rw [h] at hy
  cases hy
  exact ⟨_,hx,hk⟩
theorem rx_chg {L L':List Ino} {O:List Os.Opn} {dn:Int} {kt:Nat} {P:Ent->Prop} (h:RX L O dn (fun _=>False)) (hd:dn + 1<=1099511627776) (c:Chg L L' (dn + 1) kt P):RX L' O (dn + 1) (fun i=>i = kt):=by
 have hr:=(Sp.isSp_iff.1 h.sp).1
 have hone:=(It.right_iff.1 hr).2.2
 refine ⟨c.sp,h.os,fun o ho=>?_,fun i x' hx' hk hl hq=>?_,?_,⟨by have:=h.dn.1;omega,by have:=h.dn.1;omega⟩,fun x' hx'=>?_⟩
 ·obtain ⟨i,x,hx,hno,hg,hk⟩:=h.fl o ho
  obtain ⟨x',hx',hk'⟩:=c.old i x hx
  rcases hk' with ⟨h1,h2,_⟩ | ⟨h1,_⟩ | ⟨h1,_⟩
  ·exact ⟨i,x',hx',hno,by omega,by omega⟩
  ·omega
  ·omega
 ·rcases c.back hx' with ⟨x,hx,⟨h1,h2,_,_,_,h6,_⟩ | ⟨h1,_,h2⟩ | ⟨h1,g,k,h2⟩⟩ | ⟨hi,g,k,h2⟩
  ·rcases h6 with h6 | h6
   ·rw [h1]
    exact h.nd i x hx (by omega) (by omega) id
   ·exact absurd h6 hq
  ·rw [h2] at hk
   exact absurd (show (0:Int) = 1 from hk) (by decide)
  ·rw [h2] at hl
   exact absurd (show (1:Int)<=0 from hl) (by decide)
  ·rw [h2] at hl
   exact absurd (show (1:Int)<=0 from hl) (by decide)
 ·rw [By_same L L' c.len fun i x' hx'=>?_]
  ·exact h.by8
  ·rcases c.back hx' with ⟨x,hx,⟨h1,h2,h3,_⟩ | ⟨h1,_,h2⟩ | ⟨h1,g,k,h2⟩⟩ | ⟨hi,g,k,h2⟩
   ·exact .inl ⟨x,hx,by rw [h3]⟩
   ·exact .inl ⟨x,hx,by rw [runs_nil (hone x (List.mem_of_getElem? hx)) (by omega),h2];rfl⟩
   ·exact .inl ⟨x,hx,by rw [runs_nil (hone x (List.mem_of_getElem? hx)) (by omega),h2];rfl⟩
   ·exact .inr ⟨hi,by rw [h2];rfl⟩
 ·obtain ⟨i,hi⟩:=List.mem_iff_getElem?.1 hx'
  have h0:=h.dn.1
  rcases c.back hi with ⟨x,hx,⟨_,_,_,_,h5,_⟩ | ⟨h1,_,h2⟩ | ⟨h1,g,k,h2⟩⟩ | ⟨hi,g,k,h2⟩
  ·have:=h.dn.2 x (List.mem_of_getElem? hx)
   omega
  ·rw [h2]
   show (0:Int)<=dn + 1
   omega
  ·rw [h2]
   exact Int.le_refl _
  ·rw [h2]
   exact Int.le_refl _
theorem get_one {L:List Ino} {k:Nat} {x y:Ino} (hx:L[k]? = some x) (i:Nat):(L.set k y)[i]? = if i = k then some y else L[i]?:=by
 have hl:=(qM hx)
 rw [List.getElem?_set]
 by_cases h:i = k
 ·subst h
  simp [hl]
 ·rw [if_neg (fun e=>h e.symm),if_neg h]
theorem ents_file {x:Ino} (h:one x = true) (hk:x.kind≠2):x.ents = []:=by
 unfold one at h
 simp only [Bool.and_eq_true] at h
 have h3:=h.2.2
 rw [if_neg hk] at h3
 split at h3
 all_goals
  simp only [Bool.and_eq_true] at h3
  first | exact List.isEmpty_iff.1 h3.1.1.1 | exact List.isEmpty_iff.1 h3.1.1
theorem sp_set {L:List Ino} {k:Nat} {x y:Ino} (hs:Sp.isSp L = true) (hx:L[k]? = some x) (hk:x.kind = 1) (hr:It.right (L.set k y) = true) (he:y.ents = []) (hy:(y.kind = 1/\y.gen = x.gen/\y.links = x.links)∨(y.kind = 0/\x.links = 0)):Sp.isSp (L.set k y) = true:=by
 have h1:=(Sp.isSp_iff.1 hs).1
 have ho:=Sp.isSp_ok hs
 have hxe:x.ents = []:=ents_file ((It.right_iff.1 h1).2.2 x (List.mem_of_getElem? hx)) (by omega)
 have hg:=get_one (y:=y) hx
 have hk0:k≠0:=by
  rintro rfl
  have:=Sp.root_kind h1 hx
  omega
 have hn:∀ i:Int,Sp.nmv (L.set k y) i = Sp.nmv L i:=by
  intro i
  have c1:=Sp.cset (Sp.toI i) L k x y hx
  rw [he,hxe] at c1
  unfold Sp.nmv
  omega
 have hall:∀ e∈Sp.allEnts L,names L e.2.2.1 e.2.2.2 = true:=Sp.ok_named h1 ho
 have hnm:∀ e∈Sp.allEnts L,names (L.set k y) e.2.2.1 e.2.2.2 = true:=fun e he=>Sp.names_to (hall e he) fun j z hz hej hkz=>by
  rw [hg]
  by_cases hj:j = k
  ·subst hj
   rw [hx] at hz
   cases hz
   rw [if_pos rfl]
   rcases hy with h | h
   ·exact ⟨y,rfl,h.2.1,by omega⟩
   ·exfalso
    have h2:=(ho j x hx).2.2.1 hk
    have h3:(Sp.allEnts L).countP (Sp.toI j) = 0:=by
     unfold Sp.nmv at h2
     omega
    exact List.countP_eq_zero.1 h3 e he (by simp [Sp.toI,hej])
  ·rw [if_neg hj]
   exact ⟨z,hz,rfl,rfl⟩
 have hda:∀ c,Sp.dirAt (L.set k y) c = true ↔ Sp.dirAt L c = true:=fun c=>by
  rw [Sp.dirAt_iff,Sp.dirAt_iff,hg]
  by_cases hc:c = k
  ·subst hc
   rw [if_pos rfl,hx]
   constructor
   ·rintro ⟨z,hz,hz2⟩
    cases hz
    omega
   ·rintro ⟨z,hz,hz2⟩
    cases hz
    omega
  ·rw [if_neg hc]
 refine Sp.isSp_mk hr (fun i x' hx'=>?_) fun c hd=>?_
 ·rw [hg] at hx'
  have hni:=hn (i:Int)
  split at hx'
  ·rename_i e1
   cases hx'
   subst e1
   obtain ⟨_,_,n1,_,_⟩:=ho i x hx
   refine ⟨fun h=>?_,fun h=>?_,fun h=>?_,fun h=>?_,fun h=>absurd h hk0⟩
   ·omega
   ·omega
   ·have:=n1 hk
    omega
   ·omega
  ·obtain ⟨o1,o2,n1,n2,n3⟩:=ho i x' hx'
   exact ⟨o1,fun h e he=>hnm e (Sp.all_of hx' he),fun h=>by have:=n1 h;omega,fun h h0=>by have:=n2 h h0;omega,fun h=>by have:=n3 h;omega⟩
 ·obtain ⟨d,ha⟩:=Sp.isSp_reach hs ((hda c).1 hd)
  refine ⟨d,Sp.anc_mono (fun p c hpc=>?_) d 0 c ha⟩
  obtain ⟨⟨z,hz,e,hez,hec⟩,hdc⟩:=Sp.child_iff.1 hpc
  refine Sp.child_iff.2 ⟨⟨z,?_,e,hez,hec⟩,(hda c).2 hdc⟩
  rw [hg,if_neg]
  ·exact hz
  ·rintro rfl
   rw [hx] at hz
   cases hz
   rw [hxe] at hez
   cases hez
theorem rx_put {L:List Ino} {O:List Os.Opn} {dn:Int} {k:Nat} {x y:Ino} (h:RX L O dn (fun _=>False)) (hd:dn + 1<=1099511627776) (hx:L[k]? = some x) (hk:x.kind = 1) (hy:one y = true) (h1:y.gen = x.gen) (h2:y.kind = 1) (h3:y.links = x.links) (h4:y.stamp = dn + 1) (h5:By (L.set k y)<=8192):RX (L.set k y) O (dn + 1) (fun _=>False):=by
 have hr:=(Sp.isSp_iff.1 h.sp).1
 have hr2:=Sp.right_set hr hx hy (by omega)
 have hg:=get_one (y:=y) hx
 refine ⟨sp_set h.sp hx hk hr2 (ents_file hy (by omega)) (.inl ⟨h2,h1,h3⟩),h.os,fun o ho=>?_,fun i x' hx' hk' hl hq=>?_,h5,⟨by have:=h.dn.1;omega,by have:=h.dn.1;omega⟩,fun x' hx'=>?_⟩
 ·obtain ⟨i,z,hz,hno,hgz,hkz⟩:=h.fl o ho
  by_cases hi:i = k
  ·subst hi
   rw [hx] at hz
   cases hz
   exact ⟨i,y,by rw [hg,if_pos rfl],hno,by omega,h2⟩
  ·exact ⟨i,z,by rw [hg,if_neg hi];exact hz,hno,hgz,hkz⟩
 ·rw [hg] at hx'
  split at hx'
  ·rename_i e
   cases hx'
   subst e
   rw [h1]
   exact h.nd i x hx hk (by omega) id
  ·exact h.nd i x' hx' hk' hl id
 ·obtain ⟨i,hi⟩:=List.mem_iff_getElem?.1 hx'
  rw [hg] at hi
  split at hi
  ·cases hi
   omega
  ·have:=h.dn.2 x' (List.mem_of_getElem? hi)
   omega
theorem rx_drop {L:List Ino} {O:List Os.Opn} {dn:Int} {k:Nat} {x:Ino} (h:RX L O dn (fun i=>i = k)) (hx:L[k]? = some x) (hk:x.kind = 1) (hl:x.links = 0) (hn:¬ Hl O k x.gen):RX (L.set k (gone x.gen)) O dn (fun _=>False):=by
 have hr:=(Sp.isSp_iff.1 h.sp).1
 have hbd:=one_bd ((It.right_iff.1 hr).2.2 x (List.mem_of_getElem? hx))
 have hlen:=(qM hx)
 have h24:=right_len24 hr
 have hk0:k≠0:=by
  rintro rfl
  have:=Sp.root_kind hr hx
  omega
 have hr2:It.right (L.set k (gone x.gen)) = true:=by
  have r2:=right_put (no:=k) (x:=gone x.gen) hr (by omega) (by omega) (by omega) (one_gone hbd)
  rwa [Sp.put_set hx] at r2
 have hg:=get_one (y:=gone x.gen) hx
 refine ⟨sp_set h.sp hx hk hr2 rfl (.inr ⟨rfl,hl⟩),h.os,fun o ho=>?_,fun i x' hx' hk' hl' hq=>?_,?_,h.dn.1,fun x' hx'=>?_⟩
 ·obtain ⟨i,z,hz,hno,hgz,hkz⟩:=h.fl o ho
  refine ⟨i,z,?_,hno,hgz,hkz⟩
  rw [hg,if_neg]
  ·exact hz
  ·rintro rfl
   rw [hx] at hz
   cases hz
   exact hn ⟨o,ho,hno,by omega⟩
 ·rw [hg] at hx'
  split at hx'
  ·cases hx'
   exact absurd (show (0:Int) = 1 from hk') (by decide)
  ·rename_i hik
   exact h.nd i x' hx' hk' hl' hik
 ·have hb:=By_set L k x (gone x.gen) hx
  have e:tot (gone x.gen).runs = 0:=rfl
  have:=h.by8
  omega
 ·obtain ⟨i,hi⟩:=List.mem_iff_getElem?.1 hx'
  rw [hg] at hi
  split at hi
  ·cases hi
   exact h.dn.1.1
  ·exact h.dn.2 x' (List.mem_of_getElem? hi)
theorem rx_more {L:List Ino} {O:List Os.Opn} {dn:Int} {q:Nat->Prop} (h:RX L O dn q) (hd:dn + 1<=1099511627776):RX L O (dn + 1) q:=⟨h.sp,h.os,h.fl,h.nd,h.by8,⟨by have:=h.dn.1;omega,hd⟩,fun x hx=>by have:=h.dn.2 x hx;omega⟩
theorem rx_all {L:List Ino} {O:List Os.Opn} {dn:Int} {k:Nat} (h:RX L O dn (fun i=>i = k)) (hk:∀ x,L[k]? = some x->x.kind = 1->x.links<=0->Hl O k x.gen):RX L O dn (fun _=>False):=⟨h.sp,h.os,h.fl,fun i x hx h1 h2 _=>by
 by_cases hi:i = k
 ·subst hi
  exact hk x hx h1 h2
 ·exact h.nd i x hx h1 h2 hi,h.by8,h.dn⟩
end Nf
namespace Nf
theorem chg_mk {L L':List Ino} {st:Int} {kt:Nat} {P:Ent->Prop} (sp:Sp.isSp L' = true) (old:∀ (i:Nat) (x:Ino),L[i]? = some x->∃ x',L'[i]? = some x'/\Kin st (i = kt) P x x') (new:∀ (i:Nat) (x':Ino),L.length<=i->L'[i]? = some x'->∃ g k,x' = fresh g k st):Chg L L' st kt P:=by
 refine ⟨sp,?_,old,new⟩
 rcases Nat.lt_or_ge L'.length L.length with h | h
 ·obtain ⟨x',hx',_⟩:=old L'.length _ (List.getElem?_eq_getElem h)
  simp at hx'
 ·exact h
theorem chg_two {L:List Ino} {st:Int} {kt kc kd:Nat} {xc xd y z:Ino} {P:Ent->Prop} (hne:kc≠kd) (hc:L[kc]? = some xc) (hd:L[kd]? = some xd) (sp:Sp.isSp ((L.set kc y).set kd z) = true) (h1:Kin st (kc = kt) P xc y) (h2:Kin st (kd = kt) P xd z):Chg L ((L.set kc y).set kd z) st kt P:=by
 have hg:=Sp.get_two (y:=y) (z:=z) hne hc hd
 refine chg_mk sp (fun i x hx=>?_) fun i x' hi hx'=>?_
 ·rw [hg]
  by_cases e1:i = kd
  ·subst e1
   rw [hd] at hx
   cases hx
   exact ⟨z,if_pos rfl,h2⟩
  ·rw [if_neg e1]
   by_cases e2:i = kc
   ·subst e2
    rw [hc] at hx
    cases hx
    exact ⟨y,if_pos rfl,h1⟩
   ·rw [if_neg e2]
    exact ⟨x,hx,kin_self x⟩
 ·have hl:((L.set kc y).set kd z)[i]? = none:=by
   rw [List.getElem?_eq_none]
   simp
   omega
  rw [hl] at hx'
  cases hx'
theorem dir_size {L:List Ino} {k:Nat} {x:Ino} (hr:It.right L = true) (hx:L[k]? = some x) (hk:x.kind = 2):x.runs = []:=runs_nil ((It.right_iff.1 hr).2.2 x (List.mem_of_getElem? hx)) (by omega)
theorem make_chg {L:List Ino} {a b kind st:Int} {s:ByteArray} (h:Sp.mkE (Sp.chk Sp.isSp) L a b s kind st = 0):Chg L (Sp.mkT (Sp.chk Sp.isSp) L a b s kind st) st 0 (fun _=>False):=by
 obtain ⟨kc,xc,nn,g,hs,ha,hxc,hgc,hkc,hH,hadd,hne,h0,hg⟩:=Sp.make_form h
 have hl:=(qM hxc)
 refine chg_mk (Sp.make_stays h) (fun i x hx=>?_) fun i x' hi hx'=>?_
 ·rw [hg]
  by_cases e1:i = kc
  ·subst e1
   rw [hxc] at hx
   cases hx
   exact ⟨_,if_pos rfl,.inl ⟨rfl,rfl,rfl,fun h1=>by omega,.inr rfl,.inl (Int.le_refl _),fun e he=>.inl (List.mem_append_left _ he)⟩⟩
  ·rw [if_neg e1]
   by_cases e2:i = nn
   ·subst e2
    exact ⟨_,if_pos rfl,.inr (.inr ⟨h0 x hx,g,kind,rfl⟩)⟩
   ·rw [if_neg e2]
    exact ⟨x,hx,kin_self x⟩
 ·rw [hg,if_neg (by omega)] at hx'
  split at hx'
  ·cases hx'
   exact ⟨g,kind,rfl⟩
  ·rw [List.getElem?_eq_none hi] at hx'
   cases hx'
theorem plc_name {es:List Ent} {nx:Int} {s:ByteArray} {j:Nat} {e:Ent} (hf:Fo.findErr es nx s = 0) (hp:Fo.plc es nx s = j) (hj:es[j]? = some e):e.1 = s:=by
 unfold Fo.plc at hp
 rw [if_pos hf] at hp
 unfold Fo.at' at hp
 cases hi:es.findIdx? (Fo.called s) with
 | none =>
  rw [hi] at hp
  simp at hp
 | some k =>
  rw [hi] at hp
  have e1:k = j:=by
   simp at hp
   omega
  subst e1
  obtain ⟨hk,h2,_⟩:=List.findIdx?_eq_some_iff_getElem.1 hi
  rw [List.getElem?_eq_getElem hk] at hj
  cases hj
  unfold Fo.called at h2
  have h3:=eq_of_beq h2
  rw [ByteArray.toList_eq,ByteArray.toList_eq] at h3
  exact ByteArray.ext (Array.toList_inj.1 h3)
theorem less_kin {st:Int} {q:Prop} {x:Ino} {j:Nat} {e:Ent} {P:Ent->Prop} (hk:x.kind = 2) (hj:x.ents[j]? = some e) (hP:P e):Kin st q P x (Sp.filled x (x.ents.eraseIdx j) x.next st) :=
 .inl ⟨rfl,rfl,rfl,fun h1=>by omega,.inr rfl,.inl (Int.le_refl _),fun z hz=>by
  rcases Sp.erase_sup hj z hz with h | h
  ·exact .inl h
  ·exact .inr (by rw [h];exact hP)⟩
theorem unlink_chg {L:List Ino} {a b st:Int} {s:ByteArray} (h:Sp.ulE (Sp.chk Sp.isSp) L a b s st = 0):∃ (kt:Nat) (y:Ino),Sp.ulH (Sp.chk Sp.isSp) L a b s st = ((kt:Int),y.gen)/\(Sp.ulT (Sp.chk Sp.isSp) L a b s st)[kt]? = some y/\y.kind = 1/\kt≠0/\Chg L (Sp.ulT (Sp.chk Sp.isSp) L a b s st) st kt (fun e=>e.1 = s):=by
 have hst:=Sp.unlink_stays h
 unfold Sp.ulH
 rw [if_pos h]
 unfold Sp.ulT at hst ⊢
 rw [if_pos h] at hst ⊢
 unfold Sp.ulE at h
 by_cases hl:Sp.toErr (Sp.chk Sp.isSp) L st a b s = 0
 ·rw [if_pos hl] at h
  obtain ⟨kc,xc,j,e,kt,xt,ha,hxc,hgc,hkc,hfc,hff,hp,hj,hH,hek,hk0,hxt,hgt,hkt0,hlt,hft,hit,hic,hr,-,hlc⟩:=Sp.to_zero isSp_means hl
  rw [hH,hit] at h
  have hk2:xt.kind≠2:=fun h2=>by
   rw [if_pos h2] at h
   exact absurd h (by decide)
  have hatt:=At.right_iff.1 (Sp.attr_of hr (List.mem_of_getElem? hxt))
  unfold At.rightP at hatt
  have hk1:xt.kind = 1:=by omega
  rw [hH,hit] at hst ⊢
  unfold Sp.lessDir at hst ⊢
  rw [hic,hp,ha,hek,show ((kc:Int)).toNat = kc by omega,show ((j:Int)).toNat = j by omega,show ((kt:Int)).toNat = kt by omega] at hst ⊢
  have hne:kc≠kt:=by
   rintro rfl
   rw [hxc] at hxt
   cases hxt
   omega
  have hnm:e.1 = s:=plc_name hff hp hj
  refine ⟨kt,Sp.linked xt (-1) st,?_,?_,hk1,hk0,chg_two hne hxc hxt hst (less_kin hkc hj hnm) (.inl ⟨rfl,rfl,rfl,fun _=>rfl,.inr rfl,.inr rfl,fun e he=>.inl he⟩)⟩
  ·exact Prod.ext hek hgt.symm
  ·rw [Sp.get_two hne hxc hxt,if_pos rfl]
 ·rw [if_neg hl] at h
  exact absurd h hl
end Nf
namespace Nf
theorem top_le {L:List Ino} {m:Int} (h0:0<=m) (h:∀ x∈L,x.stamp<=m):Sp.top L<=m:=by
 have go:∀ (L:List Ino) (a:Int),a<=m->(∀ x∈L,x.stamp<=m)->L.foldl (fun m x=>max m x.stamp) a<=m:=by
  intro L
  induction L with
  | nil=>exact fun a h _=>h
  | cons x l ih=>exact fun a ha h=>ih (max a x.stamp) (by have:=h x (by simp);omega) (fun y hy=>h y (by simp [hy]))
 exact go L 0 h0 h
theorem fnd_zero {L:List Ino} {a b kind e:Int} (h:fndE L a b kind e = 0) (he:e≠0):∃ (k:Nat) (x:Ino),a = k/\L[k]? = some x/\x.gen = b/\x.kind = kind/\findI L a b = x/\findErr L a b = 0:=by
 unfold fndE at h
 by_cases hf:findErr L a b = 0
 ·rw [if_pos hf] at h
  obtain ⟨k,x,hk,hx,hg,_,hi,_⟩:=Sp.find_get hf
  rw [hi] at h
  by_cases hk2:x.kind = kind
  ·exact ⟨k,x,hk,hx,hg,hk2,hi,hf⟩
  ·rw [if_neg hk2] at h
   exact absurd h he
 ·rw [if_neg hf] at h
  exact absurd h hf
theorem fnd_ok {L:List Ino} {k:Nat} {x:Ino} {e:Int} (hr:It.right L = true) (hx:L[k]? = some x) (hk:x.kind≠0):fndE L k x.gen x.kind e = 0/\findErr L k x.gen = 0/\findI L k x.gen = x:=by
 have hf:findErr L k x.gen = 0:=by
  rw [find_err hr,if_pos (names_iff.2 ⟨k,x,hx,rfl,rfl,hk⟩)]
 have hi:=Sp.find_same hf rfl hx
 refine ⟨?_,hf,hi⟩
 unfold fndE
 rw [if_pos hf,hi,if_pos rfl]
theorem file_bd {x:Ino} (h:one x = true) (hk:x.kind = 1):x.ents = []/\x.next = 0/\Bl.right (-1) x.runs/\Bl.endOf x.runs<=x.size/\(0<=x.size/\x.size<=1048576)/\(0<=x.links/\x.links<=64)/\(0<=x.stamp/\x.stamp<=1099511627776):=by
 have h0:=h
 unfold one at h
 simp only [Bool.and_eq_true] at h
 have h3:=h.2.2
 rw [if_neg (by omega),if_pos hk] at h3
 simp only [Bool.and_eq_true,decide_eq_true_eq] at h3
 have ha:=At.right_iff.1 h.2.1
 unfold At.rightP at ha
 exact ⟨List.isEmpty_iff.1 h3.1.1.1,h3.1.1.2,h3.1.2,h3.2,by omega,by omega,by omega⟩
theorem one_file' {x y:Ino} (h:one x = true) (hk:x.kind = 1) (h1:y.gen = x.gen) (h2:y.kind = 1) (h3:y.links = x.links) (h4:y.ents = x.ents) (h5:y.next = x.next) (h6:0<=y.stamp/\y.stamp<=1099511627776) (h7:y.size<=1048576) (h8:Bl.right (-1) y.runs) (h9:Bl.endOf y.runs<=y.size) (h10:0<=y.size):one y = true:=by
 obtain ⟨b1,b2,b3,b4,b5,b6,b7⟩:=file_bd h hk
 have hbd:=one_bd h
 obtain ⟨g,k,l,s,t,rs,es,nx⟩:=y
 simp only at h1 h2 h3 h4 h5 h6 h7 h8 h9 h10
 subst h2
 rw [one_file (by omega) (At.right_iff.2 (by unfold At.rightP;omega))]
 simp only [Bool.and_eq_true,decide_eq_true_eq]
 exact ⟨⟨⟨by rw [h4,b1];rfl,by omega⟩,h8⟩,h9⟩
noncomputable abbrev wrY (x:Ino) (c:Cal) (dn:Int):Ino:={ x with size:=wrN x c,stamp:=dn,runs:=Bs.Bl.write x.runs c.pl c.data }
structure WrOk (L:List Ino) (c:Cal) (k:Nat) (x:Ino):Prop where
 no:c.no = k
 hx:L[k]? = some x
 gen:x.gen = c.gen
 kind:x.kind = 1
 d0:c.data.size≠0
 d1:c.data.size<=512
 p0:0<=c.pl
 p1:c.pl + (c.data.size:Int)<=1048576
 room:By L + tot (Bs.Bl.write x.runs c.pl c.data)<=8192 + tot x.runs
theorem tot_mem {L:List Ino} {k:Nat} {x:Ino} (hx:L[k]? = some x):tot x.runs<=By L:=by
 have h:=By_set L k x zeroI hx
 have e:tot zeroI.runs = 0:=rfl
 omega
theorem wr_room {L:List Ino} {k:Nat} {x:Ino} {c:Cal} (hr:It.right L = true) (hb:By L<=8192) (hx:L[k]? = some x) (hw:Bs.Bl.wErr x.runs c.pl c.data = 0):Bs.Bl.wOut x.runs c.pl c.data = Bs.Bl.write x.runs c.pl c.data/\Bl.right (-1) (Bs.Bl.write x.runs c.pl c.data)/\room L x c = (By L:Int) - tot x.runs + tot (Bs.Bl.write x.runs c.pl c.data):=by
 obtain ⟨h1,h2,h3⟩:=Bs.Bl.wErr_ok hw
 have hwr:=(br _ _).1 (Bs.Bl.write_right h1 h2 h3)
 have e:Bs.Bl.wOut x.runs c.pl c.data = Bs.Bl.write x.runs c.pl c.data:=by unfold Bs.Bl.wOut;rw [if_pos hw]
 refine ⟨e,hwr,?_⟩
 have hm:=tot_mem hx
 have ht:=tot_le hwr
 unfold room wrO
 rw [e,all_by hr,sumw_tot ((br _ _).1 h1),sumw_tot hwr,wrap_id (x:=(By L:Int) - tot x.runs) (by omega),wrap_id (by omega)]
theorem wr_y {L:List Ino} {O:List Os.Opn} {dn:Int} {k:Nat} {x:Ino} {c:Cal} (h:RX L O dn (fun _=>False)) (hd:dn + 1<=1099511627776) (g:WrOk L c k x):Bs.Bl.wErr x.runs c.pl c.data = 0/\one (wrY x c (dn + 1)) = true/\wrX x c (dn + 1) = wrY x c (dn + 1)/\RX (L.set k (wrY x c (dn + 1))) O (dn + 1) (fun _=>False):=by
 have hr:=(Sp.isSp_iff.1 h.sp).1
 have h1x:=(It.right_iff.1 hr).2.2 x (List.mem_of_getElem? g.hx)
 have h0:=h.dn.1
 obtain ⟨b1,b2,b3,b4,b5,b6,b7⟩:=file_bd h1x g.kind
 have hw:Bs.Bl.wErr x.runs c.pl c.data = 0:=by
  unfold Bs.Bl.wErr
  rw [if_pos ((br _ _).2 b3),if_neg (by have:=g.p0;omega),if_neg (by have:=g.p1;omega)]
 obtain ⟨e1,e2,e3⟩:=wr_room hr h.by8 g.hx hw
 have hN:wrN x c = max x.size (Bl.endOf (Bs.Bl.write x.runs c.pl c.data)):=by unfold wrN wrO;rw [e1,bend]
 have hE:Bl.endOf (Bs.Bl.write x.runs c.pl c.data)<=1048576:=by
  unfold Bl.endOf
  rw [if_pos e2]
  rcases Bl.snoc_cases (Bs.Bl.write x.runs c.pl c.data) with h | ⟨m,s,h⟩
  ·rw [h];decide
  ·rw [h,Bl.lastEnd_append]
   rw [h] at e2
   exact (Bl.right_mem e2 s (by simp)).2.2
 have hone:one (wrY x c (dn + 1)) = true:=one_file' h1x g.kind rfl g.kind rfl rfl rfl (by show 0<=dn + 1/\dn + 1<=1099511627776;omega) (by show wrN x c<=_;omega) e2 (by show _<=wrN x c;rw [hN];exact Int.le_max_right _ _) (by show 0<=wrN x c;omega)
 have hg:gE x (wrN x c) (dn + 1) = 0:=Sp.grow_ok hr g.hx (by have:=g.kind;omega) ⟨top_le (by omega) fun z hz=>by have:=h.dn.2 z hz;omega,by omega⟩ (by omega)
 refine ⟨hw,hone,?_,rx_put h hd g.hx g.kind hone rfl g.kind rfl rfl ?_⟩
 ·unfold wrX
  rw [if_pos hg]
  unfold wrO
  rw [e1]
 ·have hb:=By_set L k x (wrY x c (dn + 1)) g.hx
  have e:tot (wrY x c (dn + 1)).runs = tot (Bs.Bl.write x.runs c.pl c.data):=rfl
  have:=g.room
  omega
theorem wr_ok {L:List Ino} {O:List Os.Opn} {dn:Int} {k:Nat} {x:Ino} {c:Cal} (h:RX L O dn (fun _=>False)) (hd:dn + 1<=1099511627776) (g:WrOk L c k x):wrT L c (dn + 1) = L.set k (wrY x c (dn + 1))/\(wrP L c (dn + 1)).e = 0:=by
 have hr:=(Sp.isSp_iff.1 h.sp).1
 obtain ⟨hw,hone,hX,_⟩:=wr_y h hd g
 obtain ⟨f1,f2,f3⟩:=fnd_ok (e:=405) hr g.hx (by have:=g.kind;omega)
 rw [g.kind] at f1
 obtain ⟨e1,e2,e3⟩:=wr_room hr h.by8 g.hx hw
 have hroom:=g.room
 have hp:=Sp.putTab_set (y:=wrY x c (dn + 1)) f2 g.hx rfl (by show x.kind≠0;have:=g.kind;omega) hone rfl
 unfold wrT wrP ptT
 rw [g.no,← g.gen,f1,f3,hX,hw,hp.1,hp.2,if_neg (by decide),if_neg (by have:=g.d1;omega),if_neg (by decide),if_neg g.d0,if_neg (by omega),if_pos rfl,if_neg (by decide),if_neg (by have:=g.d1;omega),if_neg (by decide),if_neg g.d0,if_neg (by omega)]
 exact ⟨rfl,rfl⟩
theorem wr_or {L:List Ino} {O:List Os.Opn} {dn:Int} {c:Cal} (h:RX L O dn (fun _=>False)) (dm:Int):(wrT L c dm = L/\((wrP L c dm).e≠0->wrP L c dm = bad (wrP L c dm).e))∨∃ k x,WrOk L c k x:=by
 have hr:=(Sp.isSp_iff.1 h.sp).1
 by_cases h1:fndE L c.no c.gen 1 405 = 0
 ·by_cases h2:512 < c.data.size
  ·left
   unfold wrT wrP
   rw [if_neg (by simpa using h1),if_pos h2,if_neg (by simpa using h1),if_pos h2]
   exact ⟨rfl,fun _=>rfl⟩
  ·obtain ⟨k,x,hno,hx,hg,hk,hi,hf⟩:=fnd_zero h1 (by decide)
   by_cases h3:Bs.Bl.wErr x.runs c.pl c.data = 0
   ·by_cases h4:c.data.size = 0
    ·left
     unfold wrT wrP
     rw [hi,if_neg (by simpa using h1),if_neg h2,if_neg (by simpa using h3),if_pos h4,if_neg (by simpa using h1),if_neg h2,if_neg (by simpa using h3),if_pos h4]
     exact ⟨rfl,fun h=>absurd rfl h⟩
    ·by_cases h5:8192 < room L x c
     ·left
      unfold wrT wrP
      rw [hi,if_neg (by simpa using h1),if_neg h2,if_neg (by simpa using h3),if_neg h4,if_pos h5,if_neg (by simpa using h1),if_neg h2,if_neg (by simpa using h3),if_neg h4,if_pos h5]
      exact ⟨rfl,fun _=>rfl⟩
     ·right
      obtain ⟨w1,w2,w3⟩:=Bs.Bl.wErr_ok h3
      obtain ⟨e1,e2,e3⟩:=wr_room hr h.by8 hx h3
      have hm:=tot_mem hx
      exact ⟨k,x,hno,hx,hg,hk,h4,by omega,w2,w3,by omega⟩
   ·left
    unfold wrT wrP
    rw [hi,if_neg (by simpa using h1),if_neg h2,if_pos h3,if_neg (by simpa using h1),if_neg h2,if_pos h3]
    exact ⟨rfl,fun _=>rfl⟩
 ·left
  unfold wrT wrP
  rw [if_pos h1,if_pos h1]
  exact ⟨rfl,fun _=>rfl⟩
end Nf
end Go.Proofs.YtneojimodomohaaGreat
