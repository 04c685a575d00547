/- NUn, NDy, as one. -/
import Derived.Test.YtneojimodomohaaGreatV31
import Derived.Test.YtneojimodomohaaGreatV32
set_option maxHeartbeats 8000000
set_option maxRecDepth 100000
namespace Go.Proofs.YtneojimodomohaaGreat
open Go.ChangeShapes Go.WideShapes Go.ChangeAt Go.RowKit Go.Deep It
namespace Nf
structure Rpl where
 e:Int
 no:Int
 gen:Int
 kind:Int
 links:Int
 size:Int
 stamp:Int
 data:ByteArray
 ents:List Ent
 n:Int
def bad (e:Int):Rpl:=⟨e,0,0,0,0,0,0,⟨#[]⟩,[],0⟩
def told (E no gen:Int) (x:Ino):Rpl:=if E = 0 then ⟨0,no,gen,x.kind,x.links,x.size,x.stamp,⟨#[]⟩,[],0⟩ else bad E
noncomputable def wrP (L:List Ino) (c:Cal) (dn:Int):Rpl :=
 if fndE L c.no c.gen 1 405≠0 then bad (fndE L c.no c.gen 1 405)
 else if 512 < c.data.size then bad 408
 else if Bs.Bl.wErr (findI L c.no c.gen).runs c.pl c.data≠0 then bad (Bs.Bl.wErr (findI L c.no c.gen).runs c.pl c.data)
 else if c.data.size = 0 then ⟨0,0,0,(findI L c.no c.gen).kind,(findI L c.no c.gen).links,(findI L c.no c.gen).size,(findI L c.no c.gen).stamp,⟨#[]⟩,[],0⟩
 else if 8192 < room L (findI L c.no c.gen) c then bad 407
 else ⟨putErr L c.no c.gen (wrX (findI L c.no c.gen) c dn),0,0,(wrX (findI L c.no c.gen) c dn).kind,(wrX (findI L c.no c.gen) c dn).links,(wrX (findI L c.no c.gen) c dn).size,(wrX (findI L c.no c.gen) c dn).stamp,⟨#[]⟩,[],0⟩
noncomputable def cuP (L:List Ino) (c:Cal) (dn:Int):Rpl :=
 if fndE L c.no c.gen 1 405 = 0 then
  if gE (findI L c.no c.gen) c.pl dn = 0 then ⟨putErr L c.no c.gen (cuX (findI L c.no c.gen) c dn),0,0,(findI L c.no c.gen).kind,(findI L c.no c.gen).links,c.pl,dn,⟨#[]⟩,[],0⟩
  else bad (gE (findI L c.no c.gen) c.pl dn)
 else bad (fndE L c.no c.gen 1 405)
noncomputable def lookP (L:List Ino) (c:Cal):Rpl:=told (Sp.atErr (Sp.chk Sp.isSp) L c.no c.gen c.nm) (Sp.atH (Sp.chk Sp.isSp) L c.no c.gen c.nm).1 (Sp.atH (Sp.chk Sp.isSp) L c.no c.gen c.nm).2 (atR L (Sp.atH (Sp.chk Sp.isSp) L c.no c.gen c.nm).1)
noncomputable def attrP (L:List Ino) (c:Cal):Rpl:=told (findErr L c.no c.gen) 0 0 (findI L c.no c.gen)
noncomputable def makeP (L:List Ino) (c:Cal) (kind dn:Int):Rpl:=told (Sp.mkE (Sp.chk Sp.isSp) L c.no c.gen c.nm kind dn) (Sp.mkH (Sp.chk Sp.isSp) L c.no c.gen c.nm kind dn).1 (Sp.mkH (Sp.chk Sp.isSp) L c.no c.gen c.nm kind dn).2 (atR (Sp.mkT (Sp.chk Sp.isSp) L c.no c.gen c.nm kind dn) (Sp.mkH (Sp.chk Sp.isSp) L c.no c.gen c.nm kind dn).1)
noncomputable def makeT (L:List Ino) (c:Cal) (kind dn:Int):List Ino:=if Sp.mkE (Sp.chk Sp.isSp) L c.no c.gen c.nm kind dn = 0 then Sp.mkT (Sp.chk Sp.isSp) L c.no c.gen c.nm kind dn else L
noncomputable def readP (L:List Ino) (c:Cal):Rpl:=⟨rdE L c,0,0,0,0,0,0,rdD L c,[],0⟩
noncomputable def listP (L:List Ino) (c:Cal):Rpl:=⟨lsE L c,0,0,0,0,0,0,⟨#[]⟩,lsP L c,0⟩
noncomputable def linkP (L:List Ino) (c:Cal) (dn:Int):Rpl:=told (lkE L c dn) 0 0 (atR (lkT L c dn) c.no)
noncomputable def openP (L:List Ino) (O:List Os.Opn) (cl:Int) (c:Cal):Rpl:=⟨opE L O cl c,0,0,0,0,0,0,⟨#[]⟩,[],opN L O cl c⟩
noncomputable def rep (L:List Ino) (O:List Os.Opn) (dn cl:Int) (c:Cal):Rpl :=
 if c.k = 1 then lookP L c else if c.k = 2 then attrP L c else if c.k = 3 then makeP L c 1 dn else if c.k = 4 then makeP L c 2 dn
 else if c.k = 5 then readP L c else if c.k = 6 then wrP L c dn else if c.k = 7 then cuP L c dn else if c.k = 8 then linkP L c dn
 else if c.k = 9 then bad (unE L O c.no c.gen c.nm dn) else if c.k = 10 then bad (Sp.rmE (Sp.chk Sp.isSp) L c.no c.gen c.nm dn)
 else if c.k = 11 then bad (Sp.rnE (Sp.chk Sp.isSp) Sp.insB L c.no c.gen c.nm c.no2 c.gen2 c.nm2 dn) else if c.k = 12 then listP L c
 else if c.k = 13 then openP L O cl c else bad (clE L O cl c.n)
noncomputable def tab (L:List Ino) (O:List Os.Opn) (dn cl:Int) (c:Cal):List Ino :=
 if c.k = 3 then makeT L c 1 dn else if c.k = 4 then makeT L c 2 dn else if c.k = 6 then wrT L c dn else if c.k = 7 then cuT L c dn else if c.k = 8 then lkT L c dn
 else if c.k = 9 then unT L O c.no c.gen c.nm dn else if c.k = 10 then rdT L c.no c.gen c.nm dn else if c.k = 11 then rnT L c.no c.gen c.nm c.no2 c.gen2 c.nm2 dn
 else if c.k = 14 then clT L O cl c.n else L
noncomputable def ops (L:List Ino) (O:List Os.Opn) (cl:Int) (c:Cal):List Os.Opn :=
 if c.k = 13 then (if opE L O cl c = 0 then Os.Op.opened O cl c.no c.gen else O) else if c.k = 14 then (if Os.Op.closeErr O cl c.n = 0 then Os.Op.closed O cl c.n else O) else O
end Nf
abbrev VR (r:Nf.Rpl) (v:Value):Value:=VRp r.e r.no r.gen r.kind r.links r.size r.stamp r.data v r.n
theorem Nf.wr_is (L:List Ino) (c:Cal) (dn:Int):VR (Nf.wrP L c dn) (.slice none 0 0) = Nf.wrR L c dn/\(Nf.wrP L c dn).ents = []:=by
 unfold Nf.wrP Nf.wrR;split
 ·exact ⟨rfl,rfl⟩
 ·split
  ·exact ⟨rfl,rfl⟩
  ·split
   ·exact ⟨rfl,rfl⟩
   ·split
    ·exact ⟨rfl,rfl⟩
    ·split <;> exact ⟨rfl,rfl⟩
theorem Nf.cu_is (L:List Ino) (c:Cal) (dn:Int):VR (Nf.cuP L c dn) (.slice none 0 0) = Nf.cuR L c dn/\(Nf.cuP L c dn).ents = []:=by
 unfold Nf.cuP Nf.cuR;split
 ·split <;> exact ⟨rfl,rfl⟩
 ·exact ⟨rfl,rfl⟩
theorem Nf.told_is {E no gen:Int} {x:Ino} {k l s t:Int} (h0:E = 0->(k,l,s,t) = (x.kind,x.links,x.size,x.stamp)) (h1:E≠0->(k,l,s,t) = (0,0,0,0)/\no = 0/\gen = 0):VR (Nf.told E no gen x) (.slice none 0 0) = VRp E no gen k l s t ⟨#[]⟩ (.slice none 0 0) 0/\(Nf.told E no gen x).ents = []:=by
 unfold Nf.told
 by_cases h:E = 0
 ·have:=h0 h;simp only [Prod.mk.injEq] at this;obtain ⟨rfl,rfl,rfl,rfl⟩:=this;rw [if_pos h];exact ⟨by rw [h],rfl⟩
 ·obtain ⟨h2,rfl,rfl⟩:=h1 h;simp only [Prod.mk.injEq] at h2;obtain ⟨rfl,rfl,rfl,rfl⟩:=h2;rw [if_neg h];exact ⟨rfl,rfl⟩
def Uni (S:Nat->Prop) (w:World) (B:Nat) (vs:Value) (dn cl:Int) (c:Cal) (R:Nf.Rpl) (T:List Ino) (Q:List Os.Opn) (e:Ending) (w':World):Prop :=
 ∃ u uo ve L',e = .returned (VR R ve)/\w'.heap[B]? = some (BTk u uo vs dn cl c)/\TabAt (fun b=>S b∨w.heap.size<=b) w' u L'/\pl L' = T/\At Os.EO (fun b=>S b∨w.heap.size<=b) w' uo Q/\At EE (fun b=>S b∨w.heap.size<=b) w' ve R.ents/\w.grownBy w' (some B)
section
variable {S:Nat->Prop} {vi vo:Value} {vs:Value} {dn cl:Int} {c:Cal} {L:List Rw} {B:Nat} {O:List Os.Opn} {w:World}
theorem tab_or {w':World} {v:Value} {L':List Rw} {T:Nat->Prop} (h:TabAt T w' v L') (hT:∀ b,T b->S b∨w.heap.size<=b):TabAt (fun b=>S b∨w.heap.size<=b) w' v L':=h.imp (fun b hb _=>hT b hb)
theorem uni_still {w':World} {e:Ending} {R:Nf.Rpl} {ve:Value} (hB:w.heap[B]? = some (BTk vi vo vs dn cl c)) (hv:TabAt S w vi L) (ho:At Os.EO S w vo O) (he:e = .returned (VR R ve)) (hen:At EE (fun b=>S b∨w.heap.size<=b) w' ve R.ents) (hb:Bw w w') :
  Uni S w B vs dn cl c R (pl L) O e w' :=
 ⟨vi,vo,ve,L,he,(hb.block _ (qL hB)).trans hB,tab_or (hv.up hb) (fun _ h=>.inl h),rfl,(ho.up hb).imp (fun _ h _=>.inl h),hen,grown_of_below hb _⟩
theorem uni_now {w':World} {e:Ending} {R:Nf.Rpl} {u:Value} {T:List Ino} (hv:TabAt S w vi L) (hSB:¬ S B) (ho:At Os.EO S w vo O) (he:e = .returned (VR R (.slice none 0 0))) (hen:R.ents = []) (hu:w'.heap[B]? = some (BTk u vo vs dn cl c)) (hn:Nf.Now (w.heap.size + 1) w' vi u (pl L) T) (hg:w.grownBy w' (some B)) :
  Uni S w B vs dn cl c R T O e w':=by
 have ho':At Os.EO (fun b=>S b∨w.heap.size<=b) w' vo O:=(ho.grown hg (fun g h=>by cases h;exact hSB)).imp (fun _ h _=>.inl h);rcases hn with ⟨rfl,rfl⟩ | ⟨L',h1,h2⟩
 ·exact ⟨u,vo,_,L,he,hu,tab_or (tab_grown hv hg hSB) (fun _ h=>.inl h),rfl,ho',by rw [hen];exact At.nil,hg⟩
 ·exact ⟨u,vo,_,L',he,hu,tab_or h1 (fun b h=>.inr (by omega)),h2,ho',by rw [hen];exact At.nil,hg⟩
end
theorem uni_make {S:Nat->Prop} {vi vo vs u:Value} {dn cl:Int} {c:Cal} {L L':List Rw} {B:Nat} {O:List Os.Opn} {w W w1:World} {kind E qa qb k l s t:Int} (hv:TabAt S w vi L) (hSB:¬ S B) (ho:At Os.EO S w vo O) (hBl:B < w.heap.size) (hWs:w.heap.size < W.heap.size)
  (hE:Sp.mkE (Sp.chk Sp.isSp) (pl L) c.no c.gen c.nm kind dn = E) (hq:Sp.mkH (Sp.chk Sp.isSp) (pl L) c.no c.gen c.nm kind dn = (qa,qb)) (hu:w1.heap[B]? = some (BTk (Nf.sel E u vi) vo vs dn cl c)) (ht:TabAt (fun b=>W.heap.size < b) w1 u L') (hp:pl L' = Sp.mkT (Sp.chk Sp.isSp) (pl L) c.no c.gen c.nm kind dn) (ha:Nf.att E (pl L') qa (k,l,s,t)) (hg:w.grownBy w1 (some B)) :
  Uni S w B vs dn cl c (Nf.makeP (pl L) c kind dn) (Nf.makeT (pl L) c kind dn) O (.returned (VRp E qa qb k l s t ⟨#[]⟩ (.slice none 0 0) 0)) (w1.setCells w.heap.size 0 (cV E qa qb k l s t)):=by
 have hg2:w.grownBy (w1.setCells w.heap.size 0 (cV E qa qb k l s t)) (some B):=setCells_gr (.inl (Nat.le_refl _)) _ _ _ hg;have hB2:(w1.setCells w.heap.size 0 (cV E qa qb k l s t)).heap[B]? = some (BTk (Nf.sel E u vi) vo vs dn cl c):=(setCells_off _ _ _ (by omega)).trans hu;have hrep:VR (Nf.makeP (pl L) c kind dn) (.slice none 0 0) = VRp E qa qb k l s t ⟨#[]⟩ (.slice none 0 0) 0/\(Nf.makeP (pl L) c kind dn).ents = []:=by
  unfold Nf.makeP;rw [hE,hq];refine Nf.told_is (fun h=>?_) (fun h=>?_)
  ·have:=ha.1 h;rw [hp] at this;exact this
  ·exact ⟨ha.2 h,mk_none (by rw [hE];exact h) hq⟩
 refine uni_now (u:=Nf.sel E u vi) hv hSB ho (by rw [hrep.1]) hrep.2 hB2 ?_ hg2;unfold Nf.makeT Nf.sel;rw [hE]
 by_cases h:E = 0
 ·rw [if_pos h,if_pos h];exact .inr ⟨L',(setCells_tab (A:=w.heap.size) (S:=fun b=>W.heap.size < b) (by omega) _ _ _ ht).imp (fun b hb _=>by omega),hp⟩
 ·rw [if_neg h,if_neg h];exact .inl ⟨rfl,rfl⟩
theorem nmake1_any {S:Nat->Prop} (vi vo vs:Value) (dn cl:Int) (c:Cal) (L:List Rw) (B:Nat) (O:List Os.Opn) (w:World) (hB:w.heap[B]? = some (BTk vi vo vs dn cl c)) (hv:TabAt S w vi L) (hSB:¬ S B) (ho:At Os.EO S w vo O) (hok:Sp.okN L) (hs:c.nm.size<=maxLen) :
  Calls Tryz.prog 49 #[.pointer (some ⟨B,0,none⟩)] w fun e w'=>Uni S w B vs dn cl c (Nf.makeP (pl L) c 1 dn) (Nf.makeT (pl L) c 1 dn) O e w':=by
 have hBl:=(qL hB);obtain ⟨W,hW⟩:=qF (w.alloc BR0);have HB0:Hid _:=qB hW;have HA0:Hid _:=qC hW;have HT0:Hid (W.heap[B]? = some (BTk vi vo vs dn cl c)):=(HB0.out.block _ hBl).trans hB;have HV0:Hid (TabAt S w vi L):=hv;have HO0:Hid (At Os.EO S w vo O):=ho;have HOK:Hid (Sp.okN L):=hok;have HSM:Hid (c.nm.size<=maxLen):=hs;have hwW:w.heap.size < W.heap.size:=(qL HA0.out);have hBne:B≠w.heap.size:=by omega
 obtain ⟨E,hE⟩:=qE (Sp.mkE (Sp.chk Sp.isSp) (pl L) c.no c.gen c.nm 1 dn);obtain ⟨qa,qb,hq⟩:∃ qa qb,Sp.mkH (Sp.chk Sp.isSp) (pl L) c.no c.gen c.nm 1 dn = (qa,qb):=⟨_,_,rfl⟩;have HEE:Hid ((Sp.mkE (Sp.chk Sp.isSp) (pl L) c.no c.gen c.nm 1 dn) = E):=hE;have HQQ:Hid (Sp.mkH (Sp.chk Sp.isSp) (pl L) c.no c.gen c.nm 1 dn = (qa,qb)):=hq;clear hB hv ho hE hq hok hs;go_enter Tryz.func49,Tryz.ntmps49;go_wp2_with fail;rw [← hW];clear hW;refine (nmake_any vi vo vs dn cl c L B 1 W HT0.out (HV0.out.up HB0.out) HOK.out HSM.out).mono ?_;rw [HEE.out,HQQ.out];rintro e w1 ⟨u,L',k,l,s,t,rfl,hu,ht,hp,ha,hg⟩;have HU:Hid (w1.heap[B]? = some (BTk (Nf.sel E u vi) vo vs dn cl c)):=hu;have HTA:Hid (TabAt (fun b=>W.heap.size < b) w1 u L'):=ht;have HPP:Hid (pl L' = Sp.mkT (Sp.chk Sp.isSp) (pl L) c.no c.gen c.nm 1 dn):=hp;have HAT:Hid (Nf.att E (pl L') qa (k,l,s,t)):=ha;have HGG:Hid (w.grownBy w1 (some B)):=grown_trans (grown_of_below HB0.out _) hg;have HZ1:Hid (w1.heap[w.heap.size]? = some BR0):=(hg.block _ hwW (by simp;omega)).trans HA0.out;obtain ⟨g0,g1,g2,g3,g4,g5,g6,g7,g8,g9⟩:=rp_of HZ1.out;have gg:=fr_at HZ1.out;clear hu ht hp ha hg HOK HSM HT0 HA0 HB0;go_wp2
 (try simp only [Exit.inBlock,Exit.then])
 refine bodyPost_ret (v:=VRp E qa qb k l s t ⟨#[]⟩ (.slice none 0 0) 0) ?_ rfl ?_
 ·rw [results_cell1 rfl]
  go_simp
 ·exact uni_make HV0.out hSB HO0.out hBl hwW HEE.out HQQ.out HU.out HTA.out HPP.out HAT.out HGG.out
theorem nmake2_any {S:Nat->Prop} (vi vo vs:Value) (dn cl:Int) (c:Cal) (L:List Rw) (B:Nat) (O:List Os.Opn) (w:World) (hB:w.heap[B]? = some (BTk vi vo vs dn cl c)) (hv:TabAt S w vi L) (hSB:¬ S B) (ho:At Os.EO S w vo O) (hok:Sp.okN L) (hs:c.nm.size<=maxLen) :
  Calls Tryz.prog 50 #[.pointer (some ⟨B,0,none⟩)] w fun e w'=>Uni S w B vs dn cl c (Nf.makeP (pl L) c 2 dn) (Nf.makeT (pl L) c 2 dn) O e w':=by
 have hBl:=(qL hB);obtain ⟨W,hW⟩:=qF (w.alloc BR0);have HB0:Hid _:=qB hW;have HA0:Hid _:=qC hW;have HT0:Hid (W.heap[B]? = some (BTk vi vo vs dn cl c)):=(HB0.out.block _ hBl).trans hB;have HV0:Hid (TabAt S w vi L):=hv;have HO0:Hid (At Os.EO S w vo O):=ho;have HOK:Hid (Sp.okN L):=hok;have HSM:Hid (c.nm.size<=maxLen):=hs;have hwW:w.heap.size < W.heap.size:=(qL HA0.out);have hBne:B≠w.heap.size:=by omega
 obtain ⟨E,hE⟩:=qE (Sp.mkE (Sp.chk Sp.isSp) (pl L) c.no c.gen c.nm 2 dn);obtain ⟨qa,qb,hq⟩:∃ qa qb,Sp.mkH (Sp.chk Sp.isSp) (pl L) c.no c.gen c.nm 2 dn = (qa,qb):=⟨_,_,rfl⟩;have HEE:Hid ((Sp.mkE (Sp.chk Sp.isSp) (pl L) c.no c.gen c.nm 2 dn) = E):=hE;have HQQ:Hid (Sp.mkH (Sp.chk Sp.isSp) (pl L) c.no c.gen c.nm 2 dn = (qa,qb)):=hq;clear hB hv ho hE hq hok hs;go_enter Tryz.func50,Tryz.ntmps50;go_wp2_with fail;rw [← hW];clear hW;refine (nmake_any vi vo vs dn cl c L B 2 W HT0.out (HV0.out.up HB0.out) HOK.out HSM.out).mono ?_;rw [HEE.out,HQQ.out];rintro e w1 ⟨u,L',k,l,s,t,rfl,hu,ht,hp,ha,hg⟩;have HU:Hid (w1.heap[B]? = some (BTk (Nf.sel E u vi) vo vs dn cl c)):=hu;have HTA:Hid (TabAt (fun b=>W.heap.size < b) w1 u L'):=ht;have HPP:Hid (pl L' = Sp.mkT (Sp.chk Sp.isSp) (pl L) c.no c.gen c.nm 2 dn):=hp;have HAT:Hid (Nf.att E (pl L') qa (k,l,s,t)):=ha;have HGG:Hid (w.grownBy w1 (some B)):=grown_trans (grown_of_below HB0.out _) hg;have HZ1:Hid (w1.heap[w.heap.size]? = some BR0):=(hg.block _ hwW (by simp;omega)).trans HA0.out;obtain ⟨g0,g1,g2,g3,g4,g5,g6,g7,g8,g9⟩:=rp_of HZ1.out;have gg:=fr_at HZ1.out;clear hu ht hp ha hg HOK HSM HT0 HA0 HB0;go_wp2
 (try simp only [Exit.inBlock,Exit.then])
 refine bodyPost_ret (v:=VRp E qa qb k l s t ⟨#[]⟩ (.slice none 0 0) 0) ?_ rfl ?_
 ·rw [results_cell1 rfl]
  go_simp
 ·exact uni_make HV0.out hSB HO0.out hBl hwW HEE.out HQQ.out HU.out HTA.out HPP.out HAT.out HGG.out
structure Tk (S:Nat->Prop) (vi vo:Value) (sp:Option Addr) (sn sc:Nat) (dn cl:Int) (c:Cal) (L:List Rw) (B:Nat) (O:List Os.Opn) (w:World):Prop where
 hB:w.heap[B]? = some (BTk vi vo (.slice sp sn sc) dn cl c)
 hv:TabAt S w vi L
 hSB:¬ S B
 ho:At Os.EO S w vo O
 hok:Sp.okN L
 hs:c.nm.size<=maxLen
 hs2:c.nm2.size<=maxLen
 hd:c.data.size<=maxLen
 hon:∀ x∈O,names (pl L) x.2.2.1 x.2.2.2 = true
theorem task1_any {S:Nat->Prop} {vi vo:Value} {sp:Option Addr} {sn sc:Nat} {dn cl:Int} {c:Cal} {L:List Rw} {B:Nat} {O:List Os.Opn} {w:World} (g:Tk S vi vo sp sn sc dn cl c L B O w) (hk:c.k = 1) :
  Calls Tryz.prog 47 #[.pointer (some ⟨B,0,none⟩)] w fun e w'=>Uni S w B (.slice sp sn sc) dn cl c (Nf.rep (pl L) O dn cl c) (Nf.tab (pl L) O dn cl c) (Nf.ops (pl L) O cl c) e w':=by
 have hr:Nf.rep (pl L) O dn cl c = Nf.lookP (pl L) c:=by simp [Nf.rep,hk]
 have ht:Nf.tab (pl L) O dn cl c = pl L:=by simp [Nf.tab,hk]
 have hq:Nf.ops (pl L) O cl c = O:=by simp [Nf.ops,hk]
 rw [hr,ht,hq];refine (nlook_any vi vo (.slice sp sn sc) dn cl c L B w g.hB g.hv g.hok g.hs).mono ?_;rintro e w' ⟨k,l,s,t,rfl,h1,h2⟩;have hx:=Nf.told_is (E:=Sp.atErr (Sp.chk Sp.isSp) (pl L) c.no c.gen c.nm) (no:=(Sp.atH (Sp.chk Sp.isSp) (pl L) c.no c.gen c.nm).1) (gen:=(Sp.atH (Sp.chk Sp.isSp) (pl L) c.no c.gen c.nm).2) (x:=Nf.atR (pl L) (Sp.atH (Sp.chk Sp.isSp) (pl L) c.no c.gen c.nm).1) (k:=k) (l:=l) (s:=s) (t:=t) (fun h=>by rw [if_pos h] at h1;exact h1) (fun h=>by rw [if_neg h] at h1;exact ⟨h1,at_none h rfl⟩);exact uni_still g.hB g.hv g.ho (by rw [← hx.1];rfl) (by unfold Nf.lookP;rw [hx.2];exact At.nil) h2
theorem task2_any {S:Nat->Prop} {vi vo:Value} {sp:Option Addr} {sn sc:Nat} {dn cl:Int} {c:Cal} {L:List Rw} {B:Nat} {O:List Os.Opn} {w:World} (g:Tk S vi vo sp sn sc dn cl c L B O w) (hk:c.k = 2) :
  Calls Tryz.prog 48 #[.pointer (some ⟨B,0,none⟩)] w fun e w'=>Uni S w B (.slice sp sn sc) dn cl c (Nf.rep (pl L) O dn cl c) (Nf.tab (pl L) O dn cl c) (Nf.ops (pl L) O cl c) e w':=by
 have hr:Nf.rep (pl L) O dn cl c = Nf.attrP (pl L) c:=by simp [Nf.rep,hk]
 have ht:Nf.tab (pl L) O dn cl c = pl L:=by simp [Nf.tab,hk]
 have hq:Nf.ops (pl L) O cl c = O:=by simp [Nf.ops,hk]
 rw [hr,ht,hq];refine (nattr_any vi vo (.slice sp sn sc) dn cl c L B w g.hB g.hv).mono ?_;rintro e w' ⟨rfl,h2⟩;have hx:=Nf.told_is (E:=findErr (pl L) c.no c.gen) (no:=0) (gen:=0) (x:=findI (pl L) c.no c.gen) (k:=(findI (pl L) c.no c.gen).kind) (l:=(findI (pl L) c.no c.gen).links) (s:=(findI (pl L) c.no c.gen).size) (t:=(findI (pl L) c.no c.gen).stamp) (fun _=>rfl) (fun h=>⟨by unfold findI;rw [if_neg h];rfl,rfl,rfl⟩);exact uni_still g.hB g.hv g.ho (by rw [← hx.1];rfl) (by unfold Nf.attrP;rw [hx.2];exact At.nil) h2
theorem task3_any {S:Nat->Prop} {vi vo:Value} {sp:Option Addr} {sn sc:Nat} {dn cl:Int} {c:Cal} {L:List Rw} {B:Nat} {O:List Os.Opn} {w:World} (g:Tk S vi vo sp sn sc dn cl c L B O w) (hk:c.k = 3) :
  Calls Tryz.prog 49 #[.pointer (some ⟨B,0,none⟩)] w fun e w'=>Uni S w B (.slice sp sn sc) dn cl c (Nf.rep (pl L) O dn cl c) (Nf.tab (pl L) O dn cl c) (Nf.ops (pl L) O cl c) e w':=by
 have hr:Nf.rep (pl L) O dn cl c = Nf.makeP (pl L) c 1 dn:=by simp [Nf.rep,hk]
 have ht:Nf.tab (pl L) O dn cl c = Nf.makeT (pl L) c 1 dn:=by simp [Nf.tab,hk]
 have hq:Nf.ops (pl L) O cl c = O:=by simp [Nf.ops,hk]
 rw [hr,ht,hq];exact nmake1_any vi vo (.slice sp sn sc) dn cl c L B O w g.hB g.hv g.hSB g.ho g.hok g.hs
theorem task4_any {S:Nat->Prop} {vi vo:Value} {sp:Option Addr} {sn sc:Nat} {dn cl:Int} {c:Cal} {L:List Rw} {B:Nat} {O:List Os.Opn} {w:World} (g:Tk S vi vo sp sn sc dn cl c L B O w) (hk:c.k = 4) :
  Calls Tryz.prog 50 #[.pointer (some ⟨B,0,none⟩)] w fun e w'=>Uni S w B (.slice sp sn sc) dn cl c (Nf.rep (pl L) O dn cl c) (Nf.tab (pl L) O dn cl c) (Nf.ops (pl L) O cl c) e w':=by
 have hr:Nf.rep (pl L) O dn cl c = Nf.makeP (pl L) c 2 dn:=by simp [Nf.rep,hk]
 have ht:Nf.tab (pl L) O dn cl c = Nf.makeT (pl L) c 2 dn:=by simp [Nf.tab,hk]
 have hq:Nf.ops (pl L) O cl c = O:=by simp [Nf.ops,hk]
 rw [hr,ht,hq];exact nmake2_any vi vo (.slice sp sn sc) dn cl c L B O w g.hB g.hv g.hSB g.ho g.hok g.hs
theorem task5_any {S:Nat->Prop} {vi vo:Value} {sp:Option Addr} {sn sc:Nat} {dn cl:Int} {c:Cal} {L:List Rw} {B:Nat} {O:List Os.Opn} {w:World} (g:Tk S vi vo sp sn sc dn cl c L B O w) (hk:c.k = 5) :
  Calls Tryz.prog 51 #[.pointer (some ⟨B,0,none⟩)] w fun e w'=>Uni S w B (.slice sp sn sc) dn cl c (Nf.rep (pl L) O dn cl c) (Nf.tab (pl L) O dn cl c) (Nf.ops (pl L) O cl c) e w':=by
 have hr:Nf.rep (pl L) O dn cl c = Nf.readP (pl L) c:=by simp [Nf.rep,hk]
 have ht:Nf.tab (pl L) O dn cl c = pl L:=by simp [Nf.tab,hk]
 have hq:Nf.ops (pl L) O cl c = O:=by simp [Nf.ops,hk]
 rw [hr,ht,hq];refine (nread_any vi vo (.slice sp sn sc) dn cl c L B w g.hB g.hv).mono ?_;rintro e w' ⟨rfl,h2⟩;exact uni_still g.hB g.hv g.ho (ve:=.slice none 0 0) rfl At.nil h2
theorem task6_any {S:Nat->Prop} {vi vo:Value} {sp:Option Addr} {sn sc:Nat} {dn cl:Int} {c:Cal} {L:List Rw} {B:Nat} {O:List Os.Opn} {w:World} (g:Tk S vi vo sp sn sc dn cl c L B O w) (hk:c.k = 6) :
  Calls Tryz.prog 52 #[.pointer (some ⟨B,0,none⟩)] w fun e w'=>Uni S w B (.slice sp sn sc) dn cl c (Nf.rep (pl L) O dn cl c) (Nf.tab (pl L) O dn cl c) (Nf.ops (pl L) O cl c) e w':=by
 have hr:Nf.rep (pl L) O dn cl c = Nf.wrP (pl L) c dn:=by simp [Nf.rep,hk]
 have ht:Nf.tab (pl L) O dn cl c = Nf.wrT (pl L) c dn:=by simp [Nf.tab,hk]
 have hq:Nf.ops (pl L) O cl c = O:=by simp [Nf.ops,hk]
 rw [hr,ht,hq];refine (nwrite_any vi vo (.slice sp sn sc) dn cl c L B w g.hB g.hv g.hd).mono ?_;rintro e w' ⟨u,rfl,h1,h2,h3⟩;exact uni_now g.hv g.hSB g.ho (by rw [← (Nf.wr_is (pl L) c dn).1]) (Nf.wr_is (pl L) c dn).2 h1 h2 h3
theorem task7_any {S:Nat->Prop} {vi vo:Value} {sp:Option Addr} {sn sc:Nat} {dn cl:Int} {c:Cal} {L:List Rw} {B:Nat} {O:List Os.Opn} {w:World} (g:Tk S vi vo sp sn sc dn cl c L B O w) (hk:c.k = 7) :
  Calls Tryz.prog 53 #[.pointer (some ⟨B,0,none⟩)] w fun e w'=>Uni S w B (.slice sp sn sc) dn cl c (Nf.rep (pl L) O dn cl c) (Nf.tab (pl L) O dn cl c) (Nf.ops (pl L) O cl c) e w':=by
 have hr:Nf.rep (pl L) O dn cl c = Nf.cuP (pl L) c dn:=by simp [Nf.rep,hk]
 have ht:Nf.tab (pl L) O dn cl c = Nf.cuT (pl L) c dn:=by simp [Nf.tab,hk]
 have hq:Nf.ops (pl L) O cl c = O:=by simp [Nf.ops,hk]
 rw [hr,ht,hq];refine (ncut_any vi vo (.slice sp sn sc) dn cl c L B w g.hB g.hv).mono ?_;rintro e w' ⟨u,rfl,h1,h2,h3⟩;exact uni_now g.hv g.hSB g.ho (by rw [← (Nf.cu_is (pl L) c dn).1]) (Nf.cu_is (pl L) c dn).2 h1 h2 h3
theorem task8_any {S:Nat->Prop} {vi vo:Value} {sp:Option Addr} {sn sc:Nat} {dn cl:Int} {c:Cal} {L:List Rw} {B:Nat} {O:List Os.Opn} {w:World} (g:Tk S vi vo sp sn sc dn cl c L B O w) (hk:c.k = 8) :
  Calls Tryz.prog 54 #[.pointer (some ⟨B,0,none⟩)] w fun e w'=>Uni S w B (.slice sp sn sc) dn cl c (Nf.rep (pl L) O dn cl c) (Nf.tab (pl L) O dn cl c) (Nf.ops (pl L) O cl c) e w':=by
 have hr:Nf.rep (pl L) O dn cl c = Nf.linkP (pl L) c dn:=by simp [Nf.rep,hk]
 have ht:Nf.tab (pl L) O dn cl c = Nf.lkT (pl L) c dn:=by simp [Nf.tab,hk]
 have hq:Nf.ops (pl L) O cl c = O:=by simp [Nf.ops,hk]
 rw [hr,ht,hq];refine (nlink_any vi vo (.slice sp sn sc) dn cl c L B w g.hB g.hv g.hok g.hs).mono ?_;rintro e w' ⟨u,k,l,s,t,rfl,h1,h2,h3,h4⟩;have hx:=Nf.told_is (E:=Nf.lkE (pl L) c dn) (no:=0) (gen:=0) (x:=Nf.atR (Nf.lkT (pl L) c dn) c.no) (k:=k) (l:=l) (s:=s) (t:=t) h3.1 (fun h=>⟨h3.2 h,rfl,rfl⟩);exact uni_now g.hv g.hSB g.ho (by rw [← hx.1];rfl) hx.2 h1 h2 h4
theorem task9_any {S:Nat->Prop} {vi vo:Value} {sp:Option Addr} {sn sc:Nat} {dn cl:Int} {c:Cal} {L:List Rw} {B:Nat} {O:List Os.Opn} {w:World} (g:Tk S vi vo sp sn sc dn cl c L B O w) (hk:c.k = 9) :
  Calls Tryz.prog 55 #[.pointer (some ⟨B,0,none⟩)] w fun e w'=>Uni S w B (.slice sp sn sc) dn cl c (Nf.rep (pl L) O dn cl c) (Nf.tab (pl L) O dn cl c) (Nf.ops (pl L) O cl c) e w':=by
 have hr:Nf.rep (pl L) O dn cl c = Nf.bad (Nf.unE (pl L) O c.no c.gen c.nm dn):=by simp [Nf.rep,hk]
 have ht:Nf.tab (pl L) O dn cl c = Nf.unT (pl L) O c.no c.gen c.nm dn:=by simp [Nf.tab,hk]
 have hq:Nf.ops (pl L) O cl c = O:=by simp [Nf.ops,hk]
 rw [hr,ht,hq];refine (nunlink_any vi vo sp sn sc dn cl c L B w g.hB g.hv g.hSB O g.ho g.hok g.hs (fun h=>(Sp.ul_names h).1)).mono ?_;rintro e w' ⟨u,rfl,h1,h2,h3⟩;exact uni_now g.hv g.hSB g.ho rfl rfl h1 h2 h3
theorem task10_any {S:Nat->Prop} {vi vo:Value} {sp:Option Addr} {sn sc:Nat} {dn cl:Int} {c:Cal} {L:List Rw} {B:Nat} {O:List Os.Opn} {w:World} (g:Tk S vi vo sp sn sc dn cl c L B O w) (hk:c.k = 10) :
  Calls Tryz.prog 56 #[.pointer (some ⟨B,0,none⟩)] w fun e w'=>Uni S w B (.slice sp sn sc) dn cl c (Nf.rep (pl L) O dn cl c) (Nf.tab (pl L) O dn cl c) (Nf.ops (pl L) O cl c) e w':=by
 have hr:Nf.rep (pl L) O dn cl c = Nf.bad (Sp.rmE (Sp.chk Sp.isSp) (pl L) c.no c.gen c.nm dn):=by simp [Nf.rep,hk]
 have ht:Nf.tab (pl L) O dn cl c = Nf.rdT (pl L) c.no c.gen c.nm dn:=by simp [Nf.tab,hk]
 have hq:Nf.ops (pl L) O cl c = O:=by simp [Nf.ops,hk]
 rw [hr,ht,hq];refine (nrmdir_any vi vo (.slice sp sn sc) dn cl c L B w g.hB g.hv g.hok g.hs).mono ?_;rintro e w' ⟨u,rfl,h1,h2,h3⟩;exact uni_now g.hv g.hSB g.ho rfl rfl h1 h2 h3
theorem task11_any {S:Nat->Prop} {vi vo:Value} {sp:Option Addr} {sn sc:Nat} {dn cl:Int} {c:Cal} {L:List Rw} {B:Nat} {O:List Os.Opn} {w:World} (g:Tk S vi vo sp sn sc dn cl c L B O w) (hk:c.k = 11) :
  Calls Tryz.prog 57 #[.pointer (some ⟨B,0,none⟩)] w fun e w'=>Uni S w B (.slice sp sn sc) dn cl c (Nf.rep (pl L) O dn cl c) (Nf.tab (pl L) O dn cl c) (Nf.ops (pl L) O cl c) e w':=by
 have hr:Nf.rep (pl L) O dn cl c = Nf.bad (Sp.rnE (Sp.chk Sp.isSp) Sp.insB (pl L) c.no c.gen c.nm c.no2 c.gen2 c.nm2 dn):=by simp [Nf.rep,hk]
 have ht:Nf.tab (pl L) O dn cl c = Nf.rnT (pl L) c.no c.gen c.nm c.no2 c.gen2 c.nm2 dn:=by simp [Nf.tab,hk]
 have hq:Nf.ops (pl L) O cl c = O:=by simp [Nf.ops,hk]
 rw [hr,ht,hq];refine (nrename_any vi vo (.slice sp sn sc) dn cl c L B w g.hB g.hv g.hok g.hs g.hs2).mono ?_;rintro e w' ⟨u,rfl,h1,h2,h3⟩;exact uni_now g.hv g.hSB g.ho rfl rfl h1 h2 h3
theorem task12_any {S:Nat->Prop} {vi vo:Value} {sp:Option Addr} {sn sc:Nat} {dn cl:Int} {c:Cal} {L:List Rw} {B:Nat} {O:List Os.Opn} {w:World} (g:Tk S vi vo sp sn sc dn cl c L B O w) (hk:c.k = 12) :
  Calls Tryz.prog 58 #[.pointer (some ⟨B,0,none⟩)] w fun e w'=>Uni S w B (.slice sp sn sc) dn cl c (Nf.rep (pl L) O dn cl c) (Nf.tab (pl L) O dn cl c) (Nf.ops (pl L) O cl c) e w':=by
 have hr:Nf.rep (pl L) O dn cl c = Nf.listP (pl L) c:=by simp [Nf.rep,hk]
 have ht:Nf.tab (pl L) O dn cl c = pl L:=by simp [Nf.tab,hk]
 have hq:Nf.ops (pl L) O cl c = O:=by simp [Nf.ops,hk]
 rw [hr,ht,hq];refine (nlist_any vi vo (.slice sp sn sc) dn cl c L B w g.hB g.hv g.hok).mono ?_;rintro e w' ⟨p,j,q,rfl,h1,h2⟩;exact uni_still g.hB g.hv g.ho (ve:=.slice p j q) rfl (h1.imp (fun b hb _=>.inr (by omega))) h2
theorem task13_any {S:Nat->Prop} {vi vo:Value} {sp:Option Addr} {sn sc:Nat} {dn cl:Int} {c:Cal} {L:List Rw} {B:Nat} {O:List Os.Opn} {w:World} (g:Tk S vi vo sp sn sc dn cl c L B O w) (hk:c.k = 13) :
  Calls Tryz.prog 59 #[.pointer (some ⟨B,0,none⟩)] w fun e w'=>Uni S w B (.slice sp sn sc) dn cl c (Nf.rep (pl L) O dn cl c) (Nf.tab (pl L) O dn cl c) (Nf.ops (pl L) O cl c) e w':=by
 have hr:Nf.rep (pl L) O dn cl c = Nf.openP (pl L) O cl c:=by simp [Nf.rep,hk]
 have ht:Nf.tab (pl L) O dn cl c = pl L:=by simp [Nf.tab,hk]
 have hq:Nf.ops (pl L) O cl c = if Nf.opE (pl L) O cl c = 0 then Os.Op.opened O cl c.no c.gen else O:=by simp [Nf.ops,hk]
 rw [hr,ht,hq];refine (nopen_any vi vo (.slice sp sn sc) dn cl c L B w g.hB g.hv O g.ho.wide).mono ?_;rintro e w' ⟨u,rfl,h1,h2,h3⟩;refine ⟨vi,Nf.sel (Nf.opE (pl L) O cl c) u vo,.slice none 0 0,L,rfl,h1,tab_or (tab_grown g.hv h3 g.hSB) (fun _ h=>.inl h),rfl,?_,At.nil,h3⟩;unfold Nf.sel
 by_cases h:Nf.opE (pl L) O cl c = 0
 ·rw [if_pos h,if_pos h];exact (h2 h).imp (fun b hb _=>.inr (by omega))
 ·rw [if_neg h,if_neg h];exact (g.ho.grown h3 (fun g hg=>by cases hg;exact g.hSB)).imp (fun _ h _=>.inl h)
theorem task14_any {S:Nat->Prop} {vi vo:Value} {sp:Option Addr} {sn sc:Nat} {dn cl:Int} {c:Cal} {L:List Rw} {B:Nat} {O:List Os.Opn} {w:World} (g:Tk S vi vo sp sn sc dn cl c L B O w) (hk:c.k = 14) :
  Calls Tryz.prog 60 #[.pointer (some ⟨B,0,none⟩)] w fun e w'=>Uni S w B (.slice sp sn sc) dn cl c (Nf.rep (pl L) O dn cl c) (Nf.tab (pl L) O dn cl c) (Nf.ops (pl L) O cl c) e w':=by
 have hr:Nf.rep (pl L) O dn cl c = Nf.bad (Nf.clE (pl L) O cl c.n):=by simp [Nf.rep,hk]
 have ht:Nf.tab (pl L) O dn cl c = Nf.clT (pl L) O cl c.n:=by simp [Nf.tab,hk]
 have hq:Nf.ops (pl L) O cl c = if Os.Op.closeErr O cl c.n = 0 then Os.Op.closed O cl c.n else O:=by simp [Nf.ops,hk]
 rw [hr,ht,hq];refine (nclose_any vi vo sp sn sc dn cl c L B w g.hB g.hv g.hSB O g.ho.wide (fun h=>?_)).mono ?_
 ·unfold Os.Op.closeErr at h;unfold Os.Op.closeOf
  by_cases h0:Os.Op.ask O cl = 0
  ·rw [if_pos h0] at h ⊢
   cases hf:O.find? (Os.Op.mine cl c.n) with
   | none=>rw [hf] at h;exact absurd h (by decide)
   | some x=>exact g.hon x (List.mem_of_find?_eq_some hf)
  ·rw [if_neg h0] at h;exact absurd h h0
 rintro e w' ⟨u,uo,rfl,h1,h2,h3,h4⟩;have g.ho':At Os.EO (fun b=>S b∨w.heap.size<=b) w' (Nf.sel (Os.Op.closeErr O cl c.n) uo vo) (if Os.Op.closeErr O cl c.n = 0 then Os.Op.closed O cl c.n else O):=by
  unfold Nf.sel
  by_cases h:Os.Op.closeErr O cl c.n = 0
  ·rw [if_pos h,if_pos h];exact (h3 h).imp (fun b hb _=>.inr (by omega))
  ·rw [if_neg h,if_neg h];exact (g.ho.grown h4 (fun g hg=>by cases hg;exact g.hSB)).imp (fun _ h _=>.inl h)
 rcases h2 with ⟨rfl,h5⟩ | ⟨L',h5,h6⟩
 ·exact ⟨u,_,.slice none 0 0,L,rfl,h1,tab_or (tab_grown g.hv h4 g.hSB) (fun _ h=>.inl h),h5.symm,g.ho',At.nil,h4⟩
 ·exact ⟨u,_,.slice none 0 0,L',rfl,h1,tab_or h5 (fun b h=>.inr (by omega)),h6,g.ho',At.nil,h4⟩
abbrev BRl (r:Nf.Rpl) (v:Value):Obj:=BRp r.e r.no r.gen r.kind r.links r.size r.stamp r.data v r.n
abbrev cS (vi vo vs:Value) (dn:Int):List Value:=[vi,vo,vs,.int .i64 dn]
abbrev cR (r:Nf.Rpl) (v:Value):List Value:=[.int .i64 r.e,.int .i64 r.no,.int .i64 r.gen,.int .i64 r.kind,.int .i64 r.links,.int .i64 r.size,.int .i64 r.stamp,.string r.data,v,.int .i64 r.n]
abbrev BS0:Obj:=BSt (.slice none 0 0) (.slice none 0 0) (.slice none 0 0) 0
theorem dyn_wp {P:Program} {o:Oper} {a:Act} {w:World} {K:Act->World->Prop} {Q:Exit->Act->World->Prop} {x:Operand} {f B:Nat} {Post:Ending->World->Prop} (hop:o.op = .call { callee:=.value x,args:=#[],argTypes:=#[] }) (hx:a.eval x = VFn f B) (hf:∀ w,(callFunc f #[.pointer (some ⟨B,0,none⟩)]).run P w = .ok (.enter f #[.pointer (some ⟨B,0,none⟩)]) w)
  (hC:Calls P f #[.pointer (some ⟨B,0,none⟩)] w Post) (h:∀ e w',Post e w'->∃ v,e = .returned v/\K (a.put o.dst v) w'):Oper.wp P o a w K Q:=by
 unfold Oper.wp;have he:(execOp a.eval o).run P w = .ok (.enter f #[.pointer (some ⟨B,0,none⟩)]) w:=by
  rw [← hf w];unfold execOp;simp only [hop];unfold resolve;simp only [hx,Deferred.ofValue];simp [invoke]
 rw [he];show Calls P f _ w _;refine hC.mono ?_;intro e w' hp;obtain ⟨v,rfl,hk⟩:=h e w' hp;exact hk
def KindOf (B:Nat) (c:Cal) (f j:Nat):Prop:=Ym.ifind (Nf.kmap B) c.k 0 = some (j,VFn f B)/\(∀ w,(callFunc f #[.pointer (some ⟨B,0,none⟩)]).run Tryz.prog w = .ok (.enter f #[.pointer (some ⟨B,0,none⟩)]) w) /\
 ∀ {S:Nat->Prop} {vi vo:Value} {sp:Option Addr} {sn sc:Nat} {dn cl:Int} {L:List Rw} {O:List Os.Opn} {w:World},Tk S vi vo sp sn sc dn cl c L B O w->Calls Tryz.prog f #[.pointer (some ⟨B,0,none⟩)] w fun e w'=>Uni S w B (.slice sp sn sc) dn cl c (Nf.rep (pl L) O dn cl c) (Nf.tab (pl L) O dn cl c) (Nf.ops (pl L) O cl c) e w'
theorem kind1 (B:Nat) {c:Cal} (hk:c.k = 1):KindOf B c 47 0:=by
 refine ⟨?_,fun w=>(by go_simp),fun g=>task1_any g hk⟩;rw [hk];simp [Nf.kmap,Ym.ifind]
theorem kind2 (B:Nat) {c:Cal} (hk:c.k = 2):KindOf B c 48 1:=by
 refine ⟨?_,fun w=>(by go_simp),fun g=>task2_any g hk⟩;rw [hk];simp [Nf.kmap,Ym.ifind]
theorem kind3 (B:Nat) {c:Cal} (hk:c.k = 3):KindOf B c 49 2:=by
 refine ⟨?_,fun w=>(by go_simp),fun g=>task3_any g hk⟩;rw [hk];simp [Nf.kmap,Ym.ifind]
theorem kind4 (B:Nat) {c:Cal} (hk:c.k = 4):KindOf B c 50 3:=by
 refine ⟨?_,fun w=>(by go_simp),fun g=>task4_any g hk⟩;rw [hk];simp [Nf.kmap,Ym.ifind]
theorem kind5 (B:Nat) {c:Cal} (hk:c.k = 5):KindOf B c 51 4:=by
 refine ⟨?_,fun w=>(by go_simp),fun g=>task5_any g hk⟩;rw [hk];simp [Nf.kmap,Ym.ifind]
theorem kind6 (B:Nat) {c:Cal} (hk:c.k = 6):KindOf B c 52 5:=by
 refine ⟨?_,fun w=>(by go_simp),fun g=>task6_any g hk⟩;rw [hk];simp [Nf.kmap,Ym.ifind]
theorem kind7 (B:Nat) {c:Cal} (hk:c.k = 7):KindOf B c 53 6:=by
 refine ⟨?_,fun w=>(by go_simp),fun g=>task7_any g hk⟩;rw [hk];simp [Nf.kmap,Ym.ifind]
theorem kind8 (B:Nat) {c:Cal} (hk:c.k = 8):KindOf B c 54 7:=by
 refine ⟨?_,fun w=>(by go_simp),fun g=>task8_any g hk⟩;rw [hk];simp [Nf.kmap,Ym.ifind]
theorem kind9 (B:Nat) {c:Cal} (hk:c.k = 9):KindOf B c 55 8:=by
 refine ⟨?_,fun w=>(by go_simp),fun g=>task9_any g hk⟩;rw [hk];simp [Nf.kmap,Ym.ifind]
theorem kind10 (B:Nat) {c:Cal} (hk:c.k = 10):KindOf B c 56 9:=by
 refine ⟨?_,fun w=>(by go_simp),fun g=>task10_any g hk⟩;rw [hk];simp [Nf.kmap,Ym.ifind]
theorem kind11 (B:Nat) {c:Cal} (hk:c.k = 11):KindOf B c 57 10:=by
 refine ⟨?_,fun w=>(by go_simp),fun g=>task11_any g hk⟩;rw [hk];simp [Nf.kmap,Ym.ifind]
theorem kind12 (B:Nat) {c:Cal} (hk:c.k = 12):KindOf B c 58 11:=by
 refine ⟨?_,fun w=>(by go_simp),fun g=>task12_any g hk⟩;rw [hk];simp [Nf.kmap,Ym.ifind]
theorem kind13 (B:Nat) {c:Cal} (hk:c.k = 13):KindOf B c 59 12:=by
 refine ⟨?_,fun w=>(by go_simp),fun g=>task13_any g hk⟩;rw [hk];simp [Nf.kmap,Ym.ifind]
theorem kind14 (B:Nat) {c:Cal} (hk:c.k = 14):KindOf B c 60 13:=by
 refine ⟨?_,fun w=>(by go_simp),fun g=>task14_any g hk⟩;rw [hk];simp [Nf.kmap,Ym.ifind]
theorem kind_any (B:Nat) {c:Cal} (h:Ks.Ak.right c = true):∃ f j,KindOf B c f j:=by
 have hr:=(Ks.Ak.right_iff.1 h).1;have hc:c.k = 1∨c.k = 2∨c.k = 3∨c.k = 4∨c.k = 5∨c.k = 6∨c.k = 7∨c.k = 8∨c.k = 9∨c.k = 10∨c.k = 11∨c.k = 12∨c.k = 13∨c.k = 14:=by omega
 rcases hc with h | h | h | h | h | h | h | h | h | h | h | h | h | h
 ·exact ⟨_,_,kind1 B h⟩
 ·exact ⟨_,_,kind2 B h⟩
 ·exact ⟨_,_,kind3 B h⟩
 ·exact ⟨_,_,kind4 B h⟩
 ·exact ⟨_,_,kind5 B h⟩
 ·exact ⟨_,_,kind6 B h⟩
 ·exact ⟨_,_,kind7 B h⟩
 ·exact ⟨_,_,kind8 B h⟩
 ·exact ⟨_,_,kind9 B h⟩
 ·exact ⟨_,_,kind10 B h⟩
 ·exact ⟨_,_,kind11 B h⟩
 ·exact ⟨_,_,kind12 B h⟩
 ·exact ⟨_,_,kind13 B h⟩
 ·exact ⟨_,_,kind14 B h⟩
def Aft (S:Nat->Prop) (w:World) (n2 n3 tb:Nat) (vs:Value) (d cl:Int) (c:Cal) (R:Nf.Rpl) (T:List Ino) (Q:List Os.Opn) (ve u uo:Value) (L':List Rw) (Y:World) (A:Nat):Prop :=
 Y.heap[A]? = some (BRl R ve)/\Y.heap[tb]? = some (BTk u uo vs d cl c)/\Y.heap[n2]? = some BS0/\Y.heap[n3]? = some BR0/\tb < A/\TabAt (fun b=>(S b/\b < w.heap.size)∨(tb < b/\b≠A)) Y u L'/\pl L' = T/\At Os.EO (fun b=>(S b/\b < w.heap.size)∨(tb < b/\b≠A)) Y uo Q/\At EE (fun b=>(S b/\b < w.heap.size)∨(tb < b/\b≠A)) Y ve R.ents/\Bw w Y
section
variable {S:Nat->Prop} {w V w7:World} {n2 n3 tb A:Nat} {vs:Value} {d cl:Int} {c:Cal} {R:Nf.Rpl} {T:List Ino} {Q:List Os.Opn} {ve u uo:Value} {L':List Rw}
theorem aft_new (h2:V.heap[n2]? = some BS0) (h3:V.heap[n3]? = some BR0) (n2t:n2 < tb) (n3t:n3 < tb) (hwt:w.heap.size<=tb) (htV:tb < V.heap.size) (hb:Bw w V) (hB:w7.heap[tb]? = some (BTk u uo vs d cl c)) (hT:TabAt (fun b=>(S b/\b < w.heap.size)∨V.heap.size<=b) w7 u L') (hp:pl L' = T) (hO:At Os.EO (fun b=>(S b/\b < w.heap.size)∨V.heap.size<=b) w7 uo Q) (hE:At EE (fun b=>(S b/\b < w.heap.size)∨V.heap.size<=b) w7 ve R.ents) (hg:V.grownBy w7 (some tb)) :
  Aft S w n2 n3 tb vs d cl c R T Q ve u uo L' (w7.alloc (BRl R ve)) w7.heap.size:=by
 have hbn:Bw w7 (w7.alloc (BRl R ve)):=qG _ _;have hs:=hg.size;have hne:∀ k,k < tb->w7.heap[k]? = V.heap[k]?:=fun k hk=>hg.block k (by omega) (by simp;omega)
 refine ⟨heap_alloc_new _ _,(hbn.block _ (by omega)).trans hB,(hbn.block _ (by omega)).trans ((hne _ n2t).trans h2),(hbn.block _ (by omega)).trans ((hne _ n3t).trans h3),by omega,(hT.imp (fun b hb hl=>?_)).up hbn,hp,(hO.imp (fun b hb hl=>?_)).up hbn,(hE.imp (fun b hb hl=>?_)).up hbn,(hb.grown hg (hb.size) (fun k e=>by cases e;exact hwt)).trans (hbn.mono (by have:=hb.size;omega))⟩
 all_goals
  rcases hb with h | h
  ·exact .inl h
  ·exact .inr ⟨by omega,by omega⟩
theorem aft_old (h2:V.heap[n2]? = some BS0) (h3:V.heap[n3]? = some BR0) (n2t:n2 < tb) (n3t:n3 < tb) (hwt:w.heap.size<=tb) (htV:tb < V.heap.size) (hb:Bw w V) (hA:V.heap[A]? = some BR0) (htA:tb < A) (hB:w7.heap[tb]? = some (BTk u uo vs d cl c)) (hT:TabAt (fun b=>(S b/\b < w.heap.size)∨V.heap.size<=b) w7 u L') (hp:pl L' = T) (hO:At Os.EO (fun b=>(S b/\b < w.heap.size)∨V.heap.size<=b) w7 uo Q) (hE:At EE (fun b=>(S b/\b < w.heap.size)∨V.heap.size<=b) w7 ve R.ents) (hg:V.grownBy w7 (some tb)) :
  Aft S w n2 n3 tb vs d cl c R T Q ve u uo L' (w7.setCells A 0 (cR R ve)) A:=by
 have hlA:=(qL hA);have hs:=hg.size;have hne:∀ k,k < V.heap.size->k≠tb->w7.heap[k]? = V.heap[k]?:=fun k hk h=>hg.block k hk (by simp;omega)
 have hoff:∀ k,k≠A->(w7.setCells A 0 (cR R ve)).heap[k]? = w7.heap[k]?:=fun k hk=>setCells_off _ _ _ hk
 have hP:∀ b,((S b/\b < w.heap.size)∨V.heap.size<=b)->(S b/\b < w.heap.size)∨(tb < b/\b≠A):=fun b hb=>by
  rcases hb with h | h
  ·exact .inl h
  ·exact .inr ⟨by omega,by omega⟩
 have hnA:¬ ((S A/\A < w.heap.size)∨V.heap.size<=A):=by omega
 refine ⟨setCells_at (cR R ve) ((hne A hlA (by omega)).trans hA) rfl,(hoff _ (by omega)).trans hB,(hoff _ (by omega)).trans ((hne _ (by omega) (by omega)).trans h2),(hoff _ (by omega)).trans ((hne _ (by omega) (by omega)).trans h3),htA,(setCells_tab (S:=fun b=>(S b/\b < w.heap.size)∨V.heap.size<=b) hnA _ _ _ hT).imp (fun b hb _=>hP b hb),hp,(setCells_ats (S:=fun b=>(S b/\b < w.heap.size)∨V.heap.size<=b) hnA _ _ _ hO).imp (fun b hb _=>hP b hb),(setCells_ats (S:=fun b=>(S b/\b < w.heap.size)∨V.heap.size<=b) hnA _ _ _ hE).imp (fun b hb _=>hP b hb),setCells_below (by omega) _ _ _ (hb.grown hg (hb.size) (fun k e=>by cases e;exact hwt))⟩
end
end Go.Proofs.YtneojimodomohaaGreat
