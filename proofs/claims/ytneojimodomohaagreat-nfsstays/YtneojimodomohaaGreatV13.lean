/- Sp5, Sp6, Sp7, Sp8, Sp9, Sp10, as one. -/
import Derived.Test.YtneojimodomohaaGreatV12
set_option maxHeartbeats 8000000
set_option maxRecDepth 100000
namespace Go.Proofs.YtneojimodomohaaGreat
open Go.ChangeShapes Go.WideShapes Go.ChangeAt Go.RowKit Go.Deep It
def Sp.filled (x:Ino) (es:List Ent) (nx st:Int):Ino:=⟨x.gen,x.kind,x.links,es.length,st,x.runs,es,nx⟩
theorem good_filled {S T:Nat->Prop} {w:World} {x:Rw} (h:Good S w x) {dp:Option Addr} {dn dc:Nat} {es:List Ent} (hd:At EE T w (.slice dp dn dc) es) (hl:es.length<=3518437208883) (nx st:Int) :
  GoodW w ⟨Sp.filled x.i es nx st,x.rp,x.rn,x.rc,dp,dn,dc⟩:=⟨h.1.wide,hd.wide,h.2.2.1,h.2.2.2.1,hl⟩
theorem cellO {w:World} {a b:Addr} {v:Value} (h:a≠b):(w.setCell a v).cell? b = w.cell? b:=World.cell?_setCell_other (h:=h) ..
theorem cellS {w:World} {a:Addr} {u v:Value} (h:w.cell? a = some u):(w.setCell a v).cell? a = some v:=World.cell?_setCell_same (h:=h) ..
theorem frozen_block {w w':World} {b j:Nat} (h:w'.heap[b]? = w.heap[b]?):w'.frozen? ⟨b,j,none⟩ = w.frozen? ⟨b,j,none⟩:=by simp only [World.frozen?,h]
theorem ents_set {W:World} {X:Nat} {x:Rw} {v:Value} {n:Int} (h:eight W X 0 x) (hf:∀ j,W.frozen? ⟨X,j,none⟩ = false) :
  let W2:=((W.setCell ⟨X,6,none⟩ v).setCell ⟨X,7,none⟩ (.int .i64 n)).drew
  (W2.cell? ⟨X,0,none⟩ = some (.int .i64 x.i.gen)/\W2.cell? ⟨X,1,none⟩ = some (.int .i64 x.i.kind)/\W2.cell? ⟨X,2,none⟩ = some (.int .i64 x.i.links)/\W2.cell? ⟨X,3,none⟩ = some (.int .i64 x.i.size) /\
   W2.cell? ⟨X,4,none⟩ = some (.int .i64 x.i.stamp)/\W2.cell? ⟨X,5,none⟩ = some (.slice x.rp x.rn x.rc)/\W2.cell? ⟨X,6,none⟩ = some v/\W2.cell? ⟨X,7,none⟩ = some (.int .i64 n))/\∀ j,W2.frozen? ⟨X,j,none⟩ = false:=by
 obtain ⟨h0,h1,h2,h3,h4,h5,h6,h7⟩:=h;simp only [Nat.zero_add] at h0 h1 h2 h3 h4 h5 h6 h7;have o:∀ j u,j≠6->j≠7->W.cell? ⟨X,j,none⟩ = some u->(((W.setCell ⟨X,6,none⟩ v).setCell ⟨X,7,none⟩ (.int .i64 n)).drew).cell? ⟨X,j,none⟩ = some u:=fun j u a b hj=>by
  show ((W.setCell ⟨X,6,none⟩ v).setCell ⟨X,7,none⟩ (.int .i64 n)).cell? ⟨X,j,none⟩ = some u;exact (cellO (by simp <;> omega)).trans ((cellO (by simp <;> omega)).trans hj)
 have e7:(W.setCell ⟨X,6,none⟩ v).cell? ⟨X,7,none⟩ = some (.int .i64 x.i.next):=(cellO (by simp)).trans h7;refine ⟨⟨o 0 _ (by decide) (by decide) h0,o 1 _ (by decide) (by decide) h1,o 2 _ (by decide) (by decide) h2,o 3 _ (by decide) (by decide) h3,o 4 _ (by decide) (by decide) h4,o 5 _ (by decide) (by decide) h5,?_,?_⟩,fun j=>?_⟩
 ·show ((W.setCell ⟨X,6,none⟩ v).setCell ⟨X,7,none⟩ (.int .i64 n)).cell? ⟨X,6,none⟩ = some v;exact (cellO (by simp)).trans (cellS h6)
 ·exact cellS e7
 ·show ((W.setCell ⟨X,6,none⟩ v).setCell ⟨X,7,none⟩ (.int .i64 n)).frozen? ⟨X,j,none⟩ = false;simp only [World.frozen?_setCell];exact hf j
theorem sput_any {S T:Nat->Prop} (v:Value) (L:List Rw) (k:Nat) (b nx st:Int) (x:Rw) (dp:Option Addr) (dn dc:Nat) (es:List Ent) (w:World) (hv:TabAt S w v L) (hk:L[k]? = some x) (hd:At EE T w (.slice dp dn dc) es) (hl:es.length<=3518437208883)
  (he:At.growErr x.i.kind x.i.links x.i.size x.i.stamp es.length st = 0) :
  Calls Tryz.prog 192 #[v,.agg #[.int .i64 k,.int .i64 b],VD (.slice dp dn dc) nx,.int .i64 st] w fun e w'=>∃ u L',e = .returned u/\TabAt (fun b=>w.heap.size<=b) w' u L'/\pl L' = putTab (pl L) k b (Sp.filled x.i es nx st)/\Bw w w':=by
 have HV:Hid (TabAt S w v L):=hv;have HD:Hid (At EE T w (.slice dp dn dc) es):=hd;have HL:Hid (es.length<=3518437208883):=hl;obtain ⟨ao,cap,rfl,hm,hx⟩:=hv.open;obtain ⟨⟨bb,off,rfl,hB,c0,c1,c2,c3,c4,c5,c6,c7⟩,hg⟩:=hx k x hk;have hkl:(k:Int) < (L.length:Int):=by have:=(qM hk);omega
 have HG:Hid (Good S w x):=hg;have hdn:dn = es.length:=by
  obtain ⟨_,_,h,_⟩:=hd.open;simp only [Value.slice.injEq] at h;exact h.2.1
 rw [← hdn] at he;have HE:Hid (At.growErr x.i.kind x.i.links x.i.size x.i.stamp dn st = 0/\At.growOut x.i.kind x.i.links x.i.size x.i.stamp dn st = VA x.i.kind x.i.links dn st):=⟨he,by unfold At.growOut;rw [if_pos he]⟩;have HDN:Hid (dn = es.length):=hdn;unfold maxLen at hm;obtain ⟨m,hm'⟩:=qE L.length;rw [hm'] at HV hm hkl ⊢;clear hv hx hg he hk hm' hd hl hdn;obtain ⟨W,hW⟩:=qF (((w.alloc (BH k b)).alloc (BD (.slice dp dn dc) nx)).alloc (BIx x));have HB0:Hid (Bw w W):=by show Bw w W;rw [hW];exact ((qG _ _).alloc (by simp) _).alloc (by simp;omega) _
 have HA0:Hid (W.heap[w.heap.size]? = some (BH k b)/\W.heap[w.heap.size + 1]? = some (BD (.slice dp dn dc) nx)/\W.heap[w.heap.size + 2]? = some (BIx x)):=by
  have h1:=heap_alloc_new (w.alloc (BH k b)) (BD (.slice dp dn dc) nx);have h2:=heap_alloc_new ((w.alloc (BH k b)).alloc (BD (.slice dp dn dc) nx)) (BIx x);rw [show (w.alloc (BH k b)).heap.size = w.heap.size + 1 by simp] at h1;rw [show ((w.alloc (BH k b)).alloc (BD (.slice dp dn dc) nx)).heap.size = w.heap.size + 2 by simp] at h2;rw [hW];exact ⟨(Below.heap_alloc _ _ _ (by simp;omega)).trans ((Below.heap_alloc _ _ _ (by simp)).trans (heap_alloc_new _ _)),(Below.heap_alloc _ _ _ (by simp)).trans h1,h2⟩
 have hws:w.heap.size + 2 < W.heap.size:=by rw [hW];simp
 have hD:Bw w W:=HB0.out;obtain ⟨⟨d0,d1⟩,_⟩:=two_ofD HA0.out.2.1;obtain ⟨⟨q0,q1,q2,q3,q4,q5,q6,q7⟩,qf⟩:=eight_of HA0.out.2.2;obtain ⟨⟨a0,a1⟩,_⟩:=two_of HA0.out.1;clear hD;go_enter Tryz.func192,Tryz.ntmps192;go_wp2_with fail;rw [← hW];clear c0 c1 c2 c3 c4 c5 c6 c7 hW
 go_region
 all_goals
  go_wp2_with fail;have h2:=ents_set (v:=.slice dp dn dc) (n:=nx) (X:=w.heap.size + 2) (x:=x) ⟨q0,q1,q2,q3,q4,q5,q6,q7⟩ qf;have HBW:Hid (Bw w ((W.setCell ⟨w.heap.size + 2,6,none⟩ (.slice dp dn dc)).setCell ⟨w.heap.size + 2,7,none⟩ (.int .i64 nx)).drew):=by
   have h:Bw w ((W.setCell ⟨w.heap.size + 2,6,none⟩ (.slice dp dn dc)).setCell ⟨w.heap.size + 2,7,none⟩ (.int .i64 nx)):=by
    repeat (first | exact HB0.out | refine Below.setCell ?_ (by simp) _)
   exact ⟨h.os,h.tape,h.output,h.size,h.block⟩
  have ha:((W.setCell ⟨w.heap.size + 2,6,none⟩ (.slice dp dn dc)).setCell ⟨w.heap.size + 2,7,none⟩ (.int .i64 nx)).drew.heap[w.heap.size]? = some (BH k b):=by
   show ((W.setCell ⟨w.heap.size + 2,6,none⟩ (.slice dp dn dc)).setCell ⟨w.heap.size + 2,7,none⟩ (.int .i64 nx)).heap[w.heap.size]? = _;rw [Below.heap_setCell _ _ _ _ (by simp),Below.heap_setCell _ _ _ _ (by simp)];exact HA0.out.1
  have hz2:w.heap.size + 2 < ((W.setCell ⟨w.heap.size + 2,6,none⟩ (.slice dp dn dc)).setCell ⟨w.heap.size + 2,7,none⟩ (.int .i64 nx)).drew.heap.size:=by
   show w.heap.size + 2 < ((W.setCell ⟨w.heap.size + 2,6,none⟩ (.slice dp dn dc)).setCell ⟨w.heap.size + 2,7,none⟩ (.int .i64 nx)).heap.size;simp;exact hws
  generalize ((W.setCell ⟨w.heap.size + 2,6,none⟩ (.slice dp dn dc)).setCell ⟨w.heap.size + 2,7,none⟩ (.int .i64 nx)).drew = W2 at *;refine (grow_any _ _ _ _ _ _ _).mono ?_;rintro e w1 ⟨rfl,hb1⟩;rw [HE.out.1,HE.out.2];have hX:=hb1.block _ hz2;obtain ⟨⟨p0,p1,p2,p3,p4,p5,p6,p7⟩,pf⟩:=h2;replace p0:=(cell_block (p:=⟨w.heap.size + 2,0,none⟩) hX).trans p0;replace p1:=(cell_block (p:=⟨w.heap.size + 2,1,none⟩) hX).trans p1;replace p2:=(cell_block (p:=⟨w.heap.size + 2,2,none⟩) hX).trans p2;replace p3:=(cell_block (p:=⟨w.heap.size + 2,3,none⟩) hX).trans p3;replace p4:=(cell_block (p:=⟨w.heap.size + 2,4,none⟩) hX).trans p4;replace p5:=(cell_block (p:=⟨w.heap.size + 2,5,none⟩) hX).trans p5;replace p6:=(cell_block (p:=⟨w.heap.size + 2,6,none⟩) hX).trans p6;replace p7:=(cell_block (p:=⟨w.heap.size + 2,7,none⟩) hX).trans p7;have pf1:∀ j,w1.frozen? ⟨w.heap.size + 2,j,none⟩ = false:=fun j=>(frozen_block hX).trans (pf j)
  have HB1:=qJ HBW hb1;have hA:=(hb1.block w.heap.size (by omega)).trans ha;obtain ⟨⟨f0,f1⟩,_⟩:=two_of hA;clear hb1 pf hX ha hA d0 d1 q0 q1 q2 q3 q4 q5 q6 q7 a0 a1 HBW;go_wp2_with fail;have HB2:Hid (Bw w ((((w1.setCell ⟨w.heap.size + 2,1,none⟩ (.int .i64 x.i.kind)).setCell ⟨w.heap.size + 2,2,none⟩ (.int .i64 x.i.links)).setCell ⟨w.heap.size + 2,3,none⟩ (.int .i64 dn)).setCell ⟨w.heap.size + 2,4,none⟩ (.int .i64 st))):=by
   repeat (first | exact HB1.out | refine Below.setCell ?_ (by simp) _)
  have HC:Hid (Calls Tryz.prog 152 #[.slice (some ⟨bb,off,none⟩) m cap,.agg #[.int .i64 k,.int .i64 b],.agg #[.int .i64 x.i.gen,.int .i64 x.i.kind,.int .i64 x.i.links,.int .i64 dn,.int .i64 st,.slice x.rp x.rn x.rc,.slice dp dn dc,.int .i64 nx]]
    ((((w1.setCell ⟨w.heap.size + 2,1,none⟩ (.int .i64 x.i.kind)).setCell ⟨w.heap.size + 2,2,none⟩ (.int .i64 x.i.links)).setCell ⟨w.heap.size + 2,3,none⟩ (.int .i64 dn)).setCell ⟨w.heap.size + 2,4,none⟩ (.int .i64 st))
    fun e w'=>PutSaid ((((w1.setCell ⟨w.heap.size + 2,1,none⟩ (.int .i64 x.i.kind)).setCell ⟨w.heap.size + 2,2,none⟩ (.int .i64 x.i.links)).setCell ⟨w.heap.size + 2,3,none⟩ (.int .i64 dn)).setCell ⟨w.heap.size + 2,4,none⟩ (.int .i64 st)) (pl L) k b (Sp.filled x.i es nx st) e w'):=by
   have h:=put_any _ L k b ⟨Sp.filled x.i es nx st,x.rp,x.rn,x.rc,dp,dn,dc⟩ _ (HV.out.up HB2.out) (good_filled (HG.out.up HB2.out) (HD.out.up HB2.out) HL.out nx st);have e:VI ⟨Sp.filled x.i es nx st,x.rp,x.rn,x.rc,dp,dn,dc⟩ = .agg #[.int .i64 x.i.gen,.int .i64 x.i.kind,.int .i64 x.i.links,.int .i64 dn,.int .i64 st,.slice x.rp x.rn x.rc,.slice dp dn dc,.int .i64 nx]:=by rw [HDN.out];rfl
   rw [e] at h;exact h
  refine HC.out.mono ?_;rintro e w3 ⟨u,L',rfl,ht,hp,hb3⟩;have HB3:=qJ HB2 hb3;have HT:Hid (TabAt (fun b=>w.heap.size<=b) w3 u L'):=⟨ht.1.imp fun _ h _=>Nat.le_trans HB2.out.size h,fun y hy=>(ht.2 y hy).imp fun _ h _=>Nat.le_trans HB2.out.size h⟩;have HP:Hid _:=hp;clear hb3 ht hp p0 p1 p2 p3 p4 p5 p6 p7 f0 f1 HC;go_wp2;go_ret;exact ⟨u,L',rfl,HT.out,HP.out,HB3.out⟩
theorem sremove_any {S:Nat->Prop} (v:Value) (L:List Rw) (k:Nat) (b st:Int) (s:ByteArray) (x:Rw) (w:World) (hv:TabAt S w v L) (hk:L[k]? = some x) (hn:∀ e∈x.i.ents,e.1.size<=maxLen) (hs:s.size<=maxLen)
    (hf:Fo.findErr x.i.ents x.i.next s = 0) (he:At.growErr x.i.kind x.i.links x.i.size x.i.stamp (x.i.ents.eraseIdx (Fo.plc x.i.ents x.i.next s).toNat).length st = 0) :
    Calls Tryz.prog 157 #[v,.agg #[.int .i64 k,.int .i64 b],.string s,.int .i64 st] w fun e w'=>∃ u L',e = .returned u/\TabAt (fun b=>w.heap.size<=b) w' u L' /\
      pl L' = putTab (pl L) k b (Sp.filled x.i (x.i.ents.eraseIdx (Fo.plc x.i.ents x.i.next s).toNat) x.i.next st)/\Bw w w':=by
  have HV:Hid (TabAt S w v L):=hv;have HK:Hid (L[k]? = some x):=hk;obtain ⟨ao,cap,rfl,hm,hx⟩:=hv.open;obtain ⟨⟨bb,off,rfl,hB,c0,c1,c2,c3,c4,c5,c6,c7⟩,hg⟩:=hx k x hk;have hkl:(k:Int) < (L.length:Int):=by have:=(List.getElem?_eq_some_iff.1 hk).1;omega
  have HG:Hid (Good S w x):=hg;have HN:Hid ((∀ e∈x.i.ents,e.1.size<=maxLen)/\s.size<=maxLen):=⟨hn,hs⟩;have HL:Hid ((x.i.ents.eraseIdx (Fo.plc x.i.ents x.i.next s).toNat).length<=3518437208883):=Nat.le_trans (List.length_eraseIdx_le ..) hg.2.2.2.2;obtain ⟨es,hes⟩:=qE (x.i.ents.eraseIdx (Fo.plc x.i.ents x.i.next s).toNat);have HES:Hid (x.i.ents.eraseIdx (Fo.plc x.i.ents x.i.next s).toNat = es):=hes;rw [hes] at HL he ⊢;have HF:Hid (Fo.findErr x.i.ents x.i.next s = 0):=hf;have HE:Hid (At.growErr x.i.kind x.i.links x.i.size x.i.stamp es.length st = 0):=he;unfold maxLen at hm;obtain ⟨m,hm'⟩:=qE L.length;rw [hm'] at HV hm hkl ⊢;clear hv hx hg he hk hm' hf hn hs hes;go_enter Tryz.func157,Tryz.ntmps157;go_wp2_with fail;refine (dirOf_any x _).mono ?_;rintro e w1 ⟨rfl,hb1⟩;have HB1:Hid (Bw w w1):=((Below.refl _ w).alloc (Nat.le_refl _) (BH k b)).trans (hb1.mono (by simp));have HA1:Hid (w1.heap[w.heap.size]? = some (BH k b)):=(hb1.block _ (by simp)).trans (heap_alloc_new _ _);have hs1:w.heap.size < w1.heap.size:=by have:=hb1.size;simp at this;omega
  clear hb1 c0 c1 c2 c3 c4 c5 c6 c7;go_wp2_with fail;refine (remove_any _ x.i.ents x.i.next s _ (HG.out.up HB1.out).2.1.wide HN.out.1 HN.out.2).mono ?_;rintro e w2 ⟨u,rfl,hu,hb2⟩;rw [HF.out,if_pos rfl] at hu ⊢;rw [HES.out] at hu;have HB2:Hid (Bw w w2):=HB1.out.trans (hb2.mono HB1.out.size);have HA2:=qK hb2 HA1;have hs2:w.heap.size < w2.heap.size:=by have:=hb2.size;omega
  obtain ⟨uo,uc,rfl,_,_⟩:=hu.open;generalize es.length = un at hu ⊢;have HU:Hid (AtW EE w2 (.slice uo un uc) es):=hu.wide;obtain ⟨⟨a0,a1⟩,_⟩:=two_of HA2.out;obtain ⟨e0,e1⟩:=box_cells w2 (.slice uo un uc) x.i.next;have HB3:Hid (Bw w2 (w2.alloc (BD (.slice uo un uc) x.i.next))):=qG _ _;have HB4:Hid (Bw w (w2.alloc (BD (.slice uo un uc) x.i.next))):=HB2.out.trans (HB3.out.mono HB2.out.size);clear hb2 hu;go_wp2_with fail;refine (sput_any _ L k b x.i.next st x uo un uc es _ (HV.out.up HB4.out) HK.out (HU.out.up HB3.out) HL.out HE.out).mono ?_;rintro e w3 ⟨u,L',rfl,ht,hp,hb3⟩;have HB5:Hid (Bw w w3):=HB4.out.trans (hb3.mono HB4.out.size);have HT:Hid (TabAt (fun b=>w.heap.size<=b) w3 u L'):=⟨ht.1.imp fun _ h _=>Nat.le_trans HB4.out.size h,fun y hy=>(ht.2 y hy).imp fun _ h _=>Nat.le_trans HB4.out.size h⟩;have HP:Hid (pl L' = putTab (pl L) k b (Sp.filled x.i es x.i.next st)):=hp;clear hb3 ht hp e0 e1 a0 a1;go_wp2;go_ret;exact ⟨u,L',rfl,HT.out,HP.out,HB5.out⟩
theorem bel_drew {B:Nat} {w w':World} (h:Below B w w'):Below B w w'.drew:=⟨h.os,h.tape,h.output,h.size,h.block⟩
theorem setD {w:World} {A:Nat} {v u:Value} {b d:Int} (h:w.heap[A]? = some (BD v b)):((w.setCell ⟨A,0,none⟩ u).setCell ⟨A,1,none⟩ (.int .i64 d)).heap[A]? = some (BD u d):=by
 have h1:(w.setCell ⟨A,0,none⟩ u).heap[A]? = some (BD u b):=by
  rw [setCell_eq_setRow w A 0 _ _ _ _ h,setRow_heap w A _ _ _ _ h];rfl
 rw [setCell_eq_setRow _ A 1 _ _ _ _ h1,setRow_heap _ A _ _ _ _ h1];rfl
theorem sadd_any {S : Nat → Prop} (v : Value) (L : List Rw) (k : Nat) (b no gen st : Int) (s : ByteArray) (x : Rw) (w : World) (hv : TabAt S w v L) (hk : L[k]? = some x) (hn : ∀ e ∈ x.i.ents, e.1.size ≤ maxLen) (hs : s.size ≤ maxLen)
    (he:Fo.addErr x.i.ents x.i.next s no gen = 0->x.i.ents.length + 1<=3518437208883/\At.growErr x.i.kind x.i.links x.i.size x.i.stamp (x.i.ents.length + 1) st = 0) :
    Calls Tryz.prog 154 #[v,.agg #[.int .i64 k,.int .i64 b],.string s,.agg #[.int .i64 no,.int .i64 gen],.int .i64 st] w fun e w'=>∃ u L',e = .returned (.tuple #[u,.int .i64 (Fo.addErr x.i.ents x.i.next s no gen)])/\TabAt (fun b=>w.heap.size<=b) w' u L' /\
      pl L' = (if Fo.addErr x.i.ents x.i.next s no gen = 0 then putTab (pl L) k b (Sp.filled x.i (x.i.ents ++ [(s,x.i.next + 1,no,gen)]) (x.i.next + 1) st) else [])/\Bw w w':=by
  have HV:Hid (TabAt S w v L):=hv;have HK:Hid (L[k]? = some x):=hk;obtain ⟨ao,cap,rfl,hm,hx⟩:=hv.open;obtain ⟨⟨bb,off,rfl,hB,c0,c1,c2,c3,c4,c5,c6,c7⟩,hg⟩:=hx k x hk;have hkl:(k:Int) < (L.length:Int):=by have:=(List.getElem?_eq_some_iff.1 hk).1;omega
  have HG:Hid (Good S w x):=hg;have HN:Hid ((∀ e∈x.i.ents,e.1.size<=maxLen)/\s.size<=maxLen):=⟨hn,hs⟩;obtain ⟨ae,hae⟩:=qE (Fo.addErr x.i.ents x.i.next s no gen);obtain ⟨an,han⟩:=qE (if ae = 0 then x.i.next + 1 else 0);obtain ⟨al,hal⟩:=qE (if ae = 0 then x.i.ents ++ [(s,x.i.next + 1,no,gen)] else []);have HAE:Hid ((if ae = 0 then x.i.next + 1 else 0) = an/\(if ae = 0 then x.i.ents ++ [(s,x.i.next + 1,no,gen)] else []) = al):=⟨han,hal⟩;have HE:Hid (ae = 0->x.i.ents.length + 1<=3518437208883/\At.growErr x.i.kind x.i.links x.i.size x.i.stamp (x.i.ents.length + 1) st = 0):=fun h=>he (hae.trans h)
  have HADD:Hid (∀ V,AtW EE V (.slice x.ep x.en x.ec) x.i.ents->Calls Tryz.prog 191 #[VD (.slice x.ep x.en x.ec) x.i.next,.string s,VHf no gen] V fun e w'=>∃ p k q,e = .returned (.tuple #[VD (.slice p k q) an,.int .i64 ae])/\At EE (fun b=>V.heap.size<=b) w' (.slice p k q) al/\Bw V w'):=fun V h=>(add_any _ x.i.ents x.i.next s no gen V h hn hs).mono fun e w' ⟨u,he,hu,hb⟩=>by
    rw [hae,han] at he;rw [hae,hal] at hu;obtain ⟨p,q,rfl,-,-⟩:=hu.open;exact ⟨_,_,_,he,hu,hb⟩
  rw [hae];obtain ⟨W2,hW2⟩:=qF ((w.alloc (BH k b)).alloc (BH no gen));have HB2:Hid (Bw w W2):=by show Bw w W2;rw [hW2];exact (qG _ _).alloc (by simp) _
  have hwW:w.heap.size + 1 < W2.heap.size:=by rw [hW2];simp
  have HA2:Hid (W2.heap[w.heap.size]? = some (BH k b)/\W2.heap[w.heap.size + 1]? = some (BH no gen)):=by
    rw [hW2];refine ⟨(Below.heap_alloc _ _ _ (by simp)).trans (heap_alloc_new _ _),?_⟩;have:=heap_alloc_new (w.alloc (BH k b)) (BH no gen)
    rwa [show (w.alloc (BH k b)).heap.size = w.heap.size + 1 by simp] at this
  have HAD:Hid (∀ w':World,Bw W2 w'->w'.cell? ⟨w.heap.size,0,none⟩ = some (.int .i64 k)/\w'.cell? ⟨w.heap.size,1,none⟩ = some (.int .i64 b)/\w'.cell? ⟨w.heap.size + 1,0,none⟩ = some (.int .i64 no)/\w'.cell? ⟨w.heap.size + 1,1,none⟩ = some (.int .i64 gen)/\w'.cell? ⟨bb,off + k * 8,none⟩ = some (.int .i64 x.i.gen)/\w'.cell? ⟨bb,off + k * 8 + 1,none⟩ = some (.int .i64 x.i.kind)/\w'.cell? ⟨bb,off + k * 8 + 2,none⟩ = some (.int .i64 x.i.links)/\w'.cell? ⟨bb,off + k * 8 + 3,none⟩ = some (.int .i64 x.i.size)/\w'.cell? ⟨bb,off + k * 8 + 4,none⟩ = some (.int .i64 x.i.stamp)/\w'.cell? ⟨bb,off + k * 8 + 5,none⟩ = some (.slice x.rp x.rn x.rc)/\w'.cell? ⟨bb,off + k * 8 + 6,none⟩ = some (.slice x.ep x.en x.ec)/\w'.cell? ⟨bb,off + k * 8 + 7,none⟩ = some (.int .i64 x.i.next)):=by
    intro w' hb;obtain ⟨⟨a0,a1⟩,_⟩:=two_of HA2.out.1;obtain ⟨⟨g0,g1⟩,_⟩:=two_of HA2.out.2;obtain ⟨r0,r1,r2,r3,r4,r5,r6,r7⟩:=(show eight w bb (off + k * 8) x from ⟨c0,c1,c2,c3,c4,c5,c6,c7⟩).below (HB2.out.trans (hb.mono HB2.out.size)) hB;exact ⟨cell_step a0 hb,cell_step a1 hb,cell_step g0 hb,cell_step g1 hb,r0,r1,r2,r3,r4,r5,r6,r7⟩
  have HVG:Hid (∀ V,Bw W2 V->AtW EE V (.slice x.ep x.en x.ec) x.i.ents):=fun V h=>((HG.out.up HB2.out).up h).2.1.wide
  have HTG:Hid (∀ V,Bw W2 V->TabAt S V (.slice (some ⟨bb,off,none⟩) L.length cap) L):=fun V h=>(HV.out.up HB2.out).up h
  unfold maxLen at hm;obtain ⟨m,hm'⟩:=qE L.length;rw [hm'] at HV HTG hm hkl ⊢;clear hv hx hg he hk hm' hn hs hae han hal c0 c1 c2 c3 c4 c5 c6 c7;have HB01:Hid (Bw W2 (W2.alloc BZD)):=qG _ _;have HB02:Hid (Bw W2 (W2.drew.alloc BZD)):=(bel_drew (Below.refl _ _)).alloc (Nat.le_refl _) _;go_enter Tryz.func154,Tryz.ntmps154;go_wp2_with fail;rw [← hW2];clear hW2
  go_region_held3 (fun w'=>w'.cell? ⟨w.heap.size,0,none⟩ = some (.int .i64 k)/\w'.cell? ⟨w.heap.size,1,none⟩ = some (.int .i64 b)/\w'.cell? ⟨w.heap.size + 1,0,none⟩ = some (.int .i64 no)/\w'.cell? ⟨w.heap.size + 1,1,none⟩ = some (.int .i64 gen)/\w'.cell? ⟨bb,off + k * 8,none⟩ = some (.int .i64 x.i.gen)/\w'.cell? ⟨bb,off + k * 8 + 1,none⟩ = some (.int .i64 x.i.kind)/\w'.cell? ⟨bb,off + k * 8 + 2,none⟩ = some (.int .i64 x.i.links)/\w'.cell? ⟨bb,off + k * 8 + 3,none⟩ = some (.int .i64 x.i.size)/\w'.cell? ⟨bb,off + k * 8 + 4,none⟩ = some (.int .i64 x.i.stamp)/\w'.cell? ⟨bb,off + k * 8 + 5,none⟩ = some (.slice x.rp x.rn x.rc)/\w'.cell? ⟨bb,off + k * 8 + 6,none⟩ = some (.slice x.ep x.en x.ec)/\w'.cell? ⟨bb,off + k * 8 + 7,none⟩ = some (.int .i64 x.i.next)) (first | exact HAD.out _ (by (repeat (first | assumption | exact Below.refl _ _ | refine bel_drew ?_ | refine Below.setCell ?_ (by first | exact Nat.le_refl _ | assumption) _ | refine Below.alloc ?_ (by first | exact Nat.le_refl _ | assumption) _)))) (first
    | (go_at_call 129;refine (dirOf_any x _).mono ?_;rintro e w3 ⟨rfl,hb3⟩;have hb33:Bw W2 w3:=(by first | exact undrew hb3 | exact HB02.out.trans (hb3.mono HB02.out.size) | exact HB01.out.trans ((undrew hb3).mono HB01.out.size));have h3s:W2.heap.size<=w3.heap.size:=hb33.size;try (have hz3:w3.heap[W2.heap.size]? = some BZD:=(by first | exact (hb3.block _ (by simp)).trans (heap_alloc_new W2.drew BZD) | exact (hb3.block _ (by show _ < Array.size _;simp)).trans (heap_alloc_new W2 BZD)));clear hb3)
    | (go_at_call 191; refine (HADD.out _ (by first | exact HVG.out _ hb33 | exact HVG.out _ (hb33.alloc hb33.size _))).mono ?_; rintro e w4 ⟨p4, k4, c4, rfl, hu4, hb4⟩; have hb44 : Bw W2 w4 := (by first | exact hb33.trans (hb4.mono hb33.size) | exact (hb33.alloc hb33.size _).trans (hb4.mono (hb33.alloc hb33.size _).size)); have h4s : W2.heap.size ≤ w4.heap.size := hb44.size; (first
      | (have hz4:w4.heap[w3.heap.size]? = some BZD:=(hb4.block _ (by simp)).trans (heap_alloc_new w3 BZD);obtain ⟨⟨f0,f1⟩,ff⟩:=two_ofD (v:=.slice none 0 0) (n:=0) hz4;have HZ4:Hid (w4.heap[w3.heap.size]? = some BZD):=hz4;have HU4:Hid (At EE (fun b=>¬ w3.heap.size = b) w4 (.slice p4 k4 c4) al):=hu4.imp (fun b hb _=>by simp at hb;omega);clear hz4)
      | (have hz4:w4.heap[W2.heap.size]? = some BZD:=(hb4.block _ (Array.getElem?_eq_some_iff.1 hz3).1).trans hz3;obtain ⟨⟨f0,f1⟩,ff⟩:=two_ofD (v:=.slice none 0 0) (n:=0) hz4;have HZ4:Hid (w4.heap[W2.heap.size]? = some BZD):=hz4;have HU4:Hid (At EE (fun b=>¬ W2.heap.size = b) w4 (.slice p4 k4 c4) al):=hu4.imp (fun b hb _=>by have h3l:=(Array.getElem?_eq_some_iff.1 hz3).1;omega);clear hz4 hz3)
      | (have HU4:Hid (AtW EE w4 (.slice p4 k4 c4) al):=hu4.wide));clear hu4 hb4))
  all_goals first
      | (obtain ⟨W5, hW5⟩ : ∃ W5, W5 = w4.alloc (BD (.slice p4 k4 c4) an) := ⟨_, rfl⟩
         rw [← hW5];have HBW:Hid (Bw W2 W5):=by rw [hW5];exact hb44.alloc hb44.size _
         have HU5:Hid (AtW EE W5 (.slice p4 k4 c4) al):=by rw [hW5];exact HU4.out.up (qG _ _)
         obtain ⟨b9,hb9⟩:=qF w4.heap.size;have HX5:Hid (W5.heap[b9]? = some (BD (.slice p4 k4 c4) an)):=by rw [hW5,hb9];exact heap_alloc_new _ _
         rw [← hb9];clear hb9 hW5)
      | (obtain ⟨W5, hW5⟩ : ∃ W5, W5 = (w4.setCell ⟨w3.heap.size, 0, none⟩ (.slice p4 k4 c4)).setCell ⟨w3.heap.size, 1, none⟩ (.int .i64 an) := ⟨_, rfl⟩
         rw [← hW5];have HBW:Hid (Bw W2 W5):=by rw [hW5];exact Below.setCell (Below.setCell hb44 (show W2.heap.size<=w3.heap.size from h3s) _) (show W2.heap.size<=w3.heap.size from h3s) _
         have HU5:Hid (AtW EE W5 (.slice p4 k4 c4) al):=by rw [hW5];exact (At.setCell (At.setCell HU4.out (by simp) _) (by simp) _).wide
         obtain ⟨b9,hb9⟩:=qF w3.heap.size;have HX5:Hid (W5.heap[b9]? = some (BD (.slice p4 k4 c4) an)):=by rw [hW5,hb9];exact setD HZ4.out
         rw [← hb9];clear hb9 hW5 f0 f1 ff)
      | (obtain ⟨W5, hW5⟩ : ∃ W5, W5 = (w4.setCell ⟨W2.heap.size, 0, none⟩ (.slice p4 k4 c4)).setCell ⟨W2.heap.size, 1, none⟩ (.int .i64 an) := ⟨_, rfl⟩
         rw [← hW5];have HBW:Hid (Bw W2 W5):=by rw [hW5];exact Below.setCell (Below.setCell hb44 (show W2.heap.size<=W2.heap.size from Nat.le_refl _) _) (show W2.heap.size<=W2.heap.size from Nat.le_refl _) _
         have HU5:Hid (AtW EE W5 (.slice p4 k4 c4) al):=by rw [hW5];exact (At.setCell (At.setCell HU4.out (by simp) _) (by simp) _).wide
         obtain ⟨b9,hb9⟩:=qF W2.heap.size;have HX5:Hid (W5.heap[b9]? = some (BD (.slice p4 k4 c4) an)):=by rw [hW5,hb9];exact setD HZ4.out
         rw [← hb9];clear hb9 hW5 f0 f1 ff)
  all_goals
    obtain ⟨q0,q1,-,-,-,-,-,-,-,-,-,-⟩:=HAD.out _ HBW.out;obtain ⟨⟨e0,e1⟩,-⟩:=two_ofD HX5.out;have HB5:Hid (Bw w W5):=HB2.out.trans (HBW.out.mono HB2.out.size)
    by_cases hz:ae = 0
    · subst hz
      have HX:Hid (x.i.next + 1 = an/\x.i.ents ++ [(s,x.i.next + 1,no,gen)] = al):=by
        have h:=HAE.out;rw [if_pos rfl,if_pos rfl] at h;exact h
      have HLN:Hid (al.length<=3518437208883/\At.growErr x.i.kind x.i.links x.i.size x.i.stamp al.length st = 0):=by
        rw [← HX.out.2];show _/\_;have h:=HE.out rfl;simpa using h
      go_wp2_with fail;refine (sput_any _ L k b an st x p4 k4 c4 al _ (HTG.out _ HBW.out) HK.out HU5.out HLN.out.1 HLN.out.2).mono ?_;rintro e w7 ⟨u,L',rfl,ht,hp,hb7⟩;have HB7:Hid (Bw w w7):=HB5.out.trans (hb7.mono HB5.out.size);have HT:Hid (TabAt (fun b=>w.heap.size<=b) w7 u L'):=⟨ht.1.imp fun _ h _=>Nat.le_trans HB5.out.size h,fun y hy=>(ht.2 y hy).imp fun _ h _=>Nat.le_trans HB5.out.size h⟩;have HP:Hid (pl L' = putTab (pl L) k b (Sp.filled x.i al an st)):=hp;clear hb7 ht hp e0 e1 q0 q1;go_wp2
      (try simp only [Exit.inBlock,Exit.then])
      refine bodyPost_ret (v:=.tuple #[u,.int .i64 0]) (by simp [results,Tryz.results154,go_sem]) rfl ?_;exact ⟨u,rfl,L',HT.out,by rw [HX.out.2,HX.out.1];exact HP.out,HB7.out⟩
    · have HZ : Hid (¬ ae = 0) := hz
      have hz':(ae != 0) = true:=by simpa using hz
      clear hz;go_wp2
      (try simp only [Exit.inBlock,Exit.then])
      refine bodyPost_ret (v:=.tuple #[.slice none 0 0,.int .i64 ae]) (by simp [results,Tryz.results154,go_sem]) rfl ?_;exact ⟨_,rfl,[],tab_nil _ _,rfl,HB5.out⟩
/-- What Check answers, as it is proved elsewhere. -/
def ChkSaid (C:List Ino->Int):Prop:=∀ (S:Nat->Prop) (v:Value) (L:List Rw) (w:World),TabAt S w v L->Sp.okN L->Calls Tryz.prog 27 #[v] w fun e w'=>e = .returned (.int .i64 (C (pl L)))/\Bw w w'
namespace Sp
/-- The greatest stamp. -/
def top (L:List Ino):Int:=L.foldl (fun m x=>max m x.stamp) 0
theorem top_step {L:List Rw} {k:Nat} {x:Rw} (h:L[k]? = some x):top (pl (L.take (k + 1))) = max (top (pl (L.take k))) x.i.stamp:=by
  rw [List.take_add_one,h];simp [top,pl]
def stErr (C:List Ino->Int) (L:List Ino) (st:Int):Int:=if C L = 0 then (if top L<=st/\st<=1099511627776 then 0 else 1) else C L
end Sp
theorem srefuse_any {C : List Ino → Int} (hC : ChkSaid C) {S : Nat → Prop} (v : Value) (L : List Rw) (st : Int) (w : World) (hv : TabAt S w v L) (hok : Sp.okN L) :
    Calls Tryz.prog 189 #[v,.int .i64 st] w fun e w'=>e = .returned (.int .i64 (Sp.stErr C (pl L) st))/\Bw w w':=by
  have HC:Hid (Calls Tryz.prog 27 #[v] w fun e w'=>e = .returned (.int .i64 (C (pl L)))/\Bw w w'):=hC S v L w hv hok;obtain ⟨ao,cap,rfl,hm,hx⟩:=hv.open;clear hv hC hok;unfold maxLen at hm;obtain ⟨n,hn⟩:=qE L.length;rw [hn] at hm HC ⊢;have HN:Hid (L.length = n):=hn;have HX:Hid (∀ i x,L[i]? = some x->(∃ b off,ao = some ⟨b,off,none⟩/\b < w.heap.size/\eight w b (off + i * 8) x)/\Good S w x):=hx;obtain ⟨ce,hce⟩:=qE (C (pl L));rw [hce] at HC
  by_cases hz:ce = 0
  · subst hz
    have HR:Hid (Sp.stErr C (pl L) st = if Sp.top (pl L)<=st/\st<=1099511627776 then 0 else 1):=by show Sp.stErr C (pl L) st = _;unfold Sp.stErr;rw [if_pos hce]
    obtain ⟨r,hr⟩:=qE (Sp.stErr C (pl L) st);rw [hr] at HR ⊢;clear hr hce hn hx;go_enter Tryz.func189,Tryz.ntmps189;go_wp2_with fail;refine HC.out.mono ?_;rintro e w1 ⟨rfl,hb1⟩;have HB1:Hid (Bw w w1):=hb1;clear hb1;go_wp2;go_loopw [6,16] (fun g i wr=>∃ k:Nat,k<=n/\i = .int .i64 k/\g = .int .i64 (Sp.top (pl (L.take k)))/\Hid (Bw w wr)) (fun _ i _=>n - (intOf i).toNat)
    case atStart=>exact ⟨0,Nat.zero_le _,rfl,rfl,HB1.out⟩
    case round =>
      obtain ⟨k,hk,rfl,rfl,HB⟩:=hrel;have hsz:=HB.out.size;obtain ⟨g,hg⟩:=qE (Sp.top (pl (L.take k)));have HGG:Hid (Sp.top (pl (L.take k)) = g):=hg;rw [hg];clear hg
      by_cases hlt:k < n
      · obtain ⟨x, hxk⟩ : ∃ x, L[k]? = some x := ⟨_, List.getElem?_eq_getElem (by rw [HN.out]; exact hlt)⟩
        have HXK:Hid (L[k]? = some x):=hxk;obtain ⟨⟨b,off,rfl,hB,hc⟩,-⟩:=HX.out k x hxk;obtain ⟨c0,c1,c2,c3,c4,c5,c6,c7⟩:=hc.below HB.out hB;have hlt':(k:Int) < (n:Int):=by omega
        clear hc hxk;go_wp2;refine ⟨⟨k + 1,by omega,by go_num,?_,HB.out.alloc hsz _⟩,?_⟩
        · rw [Sp.top_step HXK.out, HGG.out]
          congr 1
          split <;> omega
        · simp [intOf]
          omega
      · obtain rfl : k = n := by omega
        have HT:Hid (Sp.top (pl L) = g):=by
          show Sp.top (pl L) = g;rw [← HGG.out,List.take_of_length_le (by rw [HN.out];exact Nat.le_refl _)]
        by_cases hw:g<=st/\st<=1099511627776
        · have H : Hid (r = 0) := by show r = 0; rw [HR.out, HT.out, if_pos hw]
          have HW:Hid (decide (g<=st/\st<=1099511627776) = true):=decide_eq_true hw;clear hw hlt;go_wp2_with fail;refine (swithin_any _ _ _ _).mono ?_;rintro e w2 ⟨rfl,hw2⟩;subst hw2;rw [HW.out];go_wp2;go_ret;rw [H.out];exact ⟨rfl,HB.out⟩
        · have H : Hid (r = 1) := by show r = 1; rw [HR.out, HT.out, if_neg hw]
          have HW:Hid (decide (g<=st/\st<=1099511627776) = false):=decide_eq_false hw;clear hw hlt;go_wp2_with fail;refine (swithin_any _ _ _ _).mono ?_;rintro e w2 ⟨rfl,hw2⟩;subst hw2;rw [HW.out];go_wp2;go_ret;rw [H.out];exact ⟨rfl,HB.out⟩
  · have HR : Hid (Sp.stErr C (pl L) st = ce) := by show Sp.stErr C (pl L) st = _; unfold Sp.stErr; rw [if_neg (by rw [hce]; exact hz), hce]
    have hz':(ce != 0) = true:=by simpa using hz
    rw [HR.out];clear hce hz hn hx;go_enter Tryz.func189,Tryz.ntmps189;go_wp2_with fail;refine HC.out.mono ?_;rintro e w1 ⟨rfl,hb1⟩;have HB1:Hid (Bw w w1):=hb1;clear hb1;go_wp2;go_ret;exact ⟨rfl,HB1.out⟩
namespace Sp
noncomputable def atErr (C:List Ino->Int) (L:List Ino) (a b:Int) (s:ByteArray):Int:=if C L = 0 then lookErr L a b s else C L
noncomputable def atH (C:List Ino->Int) (L:List Ino) (a b:Int) (s:ByteArray):Int × Int:=if C L = 0 then lookH L a b s else (0,0)
noncomputable def toErr (C:List Ino->Int) (L:List Ino) (st a b:Int) (s:ByteArray):Int:=if stErr C L st = 0 then lookErr L a b s else stErr C L st
noncomputable def toH (C:List Ino->Int) (L:List Ino) (st a b:Int) (s:ByteArray):Int × Int:=if stErr C L st = 0 then lookH L a b s else (0,0)
noncomputable def makeErr (C:List Ino->Int) (L:List Ino) (a b:Int) (s:ByteArray) (kind st:Int):Int:=if stErr C L st = 0 then (if kind = 1∨kind = 2 then nameErr L a b s else 1) else stErr C L st
end Sp
theorem look_any {C:List Ino->Int} (hC:ChkSaid C) {S:Nat->Prop} (v:Value) (L:List Rw) (a b:Int) (s:ByteArray) (w:World) (hv:TabAt S w v L) (hok:Sp.okN L) (hs:s.size<=maxLen) :
  Calls Tryz.prog 92 #[v,.agg #[.int .i64 a,.int .i64 b],.string s] w fun e w'=>e = .returned (.tuple #[.agg #[.int .i64 (Sp.atH C (pl L) a b s).1,.int .i64 (Sp.atH C (pl L) a b s).2],.int .i64 (Sp.atErr C (pl L) a b s)])/\Bw w w':=by
 obtain ⟨W,hW⟩:=qF ((w.alloc (BH a b)).alloc (BH 0 0));have HB0:Hid (Bw w W):=by show Bw w W;rw [hW];exact (qG _ _).alloc (by simp) _
 have HA0:Hid (W.heap[w.heap.size]? = some (BH a b)/\W.heap[w.heap.size + 1]? = some (BH 0 0)):=by
  rw [hW];refine ⟨(Below.heap_alloc _ _ _ (by simp)).trans (heap_alloc_new _ _),?_⟩;have:=heap_alloc_new (w.alloc (BH a b)) (BH 0 0)
  rwa [show (w.alloc (BH a b)).heap.size = w.heap.size + 1 by simp] at this
 have hws:w.heap.size + 1 < W.heap.size:=by rw [hW];simp
 have HV:Hid (TabAt S W v L):=hv.up HB0.out;obtain ⟨ao,cap,rfl,_,_⟩:=hv.open;have HOK:Hid (Sp.okN L):=hok;have HSM:Hid (s.size<=maxLen):=hs;have HCC:Hid (ChkSaid C):=hC;clear hv hok hs hC;obtain ⟨ce,hce⟩:=qE (C (pl L));have HCE:Hid (C (pl L) = ce):=hce
 by_cases hz:ce = 0
 ·subst hz;obtain ⟨q,hq⟩:=qE (Sp.lookH (pl L) a b s);obtain ⟨fe,hfe⟩:=qE (Sp.lookErr (pl L) a b s);have HF:Hid (Sp.lookH (pl L) a b s = q/\Sp.lookErr (pl L) a b s = fe):=⟨hq,hfe⟩;rw [show Sp.atErr C (pl L) a b s = fe by unfold Sp.atErr;rw [if_pos hce,hfe],show Sp.atH C (pl L) a b s = q by unfold Sp.atH;rw [if_pos hce,hq]];clear hq hfe hce;go_enter Tryz.func92,Tryz.ntmps92;go_wp2_with fail;rw [← hW];refine (HCC.out S _ L _ HV.out HOK.out).mono ?_;rintro e w1 ⟨rfl,hb1⟩;rw [HCE.out];have HB1:=qJ HB0 hb1;have HA1:Hid (w1.heap[w.heap.size]? = some (BH a b)/\w1.heap[w.heap.size + 1]? = some (BH 0 0)):=⟨(hb1.block _ (by omega)).trans HA0.out.1,(hb1.block _ (by omega)).trans HA0.out.2⟩;have hws1:w.heap.size + 1 < w1.heap.size:=by have:=hb1.size;omega
  have HV1:Hid (TabAt S w1 (.slice ao L.length cap) L):=HV.out.up hb1;obtain ⟨⟨a0,a1⟩,_⟩:=two_of HA1.out.1;clear hb1 hW HV HA0;go_wp2_with fail;refine (sfind_any _ L a b s _ HV1.out HOK.out HSM.out).mono ?_;rintro e w2 ⟨rfl,hb2⟩;rw [HF.out.1,HF.out.2];have HB3:=qJ HB1 hb2;obtain ⟨⟨z0,z1⟩,zf⟩:=two_of ((hb2.block _ hws1).trans HA1.out.2);clear hb2 a0 a1;go_wp2
  (try simp only [Exit.inBlock,Exit.then])
  refine bodyPost_ret (v:=.tuple #[.agg #[.int .i64 q.1,.int .i64 q.2],.int .i64 fe]) ?_ rfl ⟨rfl,?_⟩
  ·rw [results_cell_tmp rfl]
   go_simp
  ·repeat (first | exact HB3.out | refine Below.setCell ?_ (by simp) _)
 ·rw [show Sp.atErr C (pl L) a b s = ce by unfold Sp.atErr;rw [if_neg (by rw [hce];exact hz),hce],show Sp.atH C (pl L) a b s = (0,0) by unfold Sp.atH;rw [if_neg (by rw [hce];exact hz)]];have hz':(ce != 0) = true:=by simpa using hz
  clear hz hce;go_enter Tryz.func92,Tryz.ntmps92;go_wp2_with fail;rw [← hW];refine (HCC.out S _ L _ HV.out HOK.out).mono ?_;rintro e w1 ⟨rfl,hb1⟩;rw [HCE.out];have HB1:=qJ HB0 hb1;obtain ⟨⟨z0,z1⟩,zf⟩:=two_of ((hb1.block _ (by omega)).trans HA0.out.2);clear hb1 hW HV HA0;go_wp2
  (try simp only [Exit.inBlock,Exit.then])
  refine bodyPost_ret (v:=.tuple #[.agg #[.int .i64 0,.int .i64 0],.int .i64 ce]) ?_ rfl ⟨rfl,?_⟩
  ·rw [results_cell_tmp rfl]
   go_simp
  ·repeat (first | exact HB1.out | refine Below.setCell ?_ (by simp) _)
theorem toChange_any {C:List Ino->Int} (hC:ChkSaid C) {S:Nat->Prop} (v:Value) (L:List Rw) (a b:Int) (s:ByteArray) (st:Int) (w:World) (hv:TabAt S w v L) (hok:Sp.okN L) (hs:s.size<=maxLen) :
  Calls Tryz.prog 156 #[v,.agg #[.int .i64 a,.int .i64 b],.string s,.int .i64 st] w fun e w'=>e = .returned (.tuple #[.agg #[.int .i64 (Sp.toH C (pl L) st a b s).1,.int .i64 (Sp.toH C (pl L) st a b s).2],.int .i64 (Sp.toErr C (pl L) st a b s)])/\Bw w w':=by
 obtain ⟨W,hW⟩:=qF ((w.alloc (BH a b)).alloc (BH 0 0));have HB0:Hid (Bw w W):=by show Bw w W;rw [hW];exact (qG _ _).alloc (by simp) _
 have HA0:Hid (W.heap[w.heap.size]? = some (BH a b)/\W.heap[w.heap.size + 1]? = some (BH 0 0)):=by
  rw [hW];refine ⟨(Below.heap_alloc _ _ _ (by simp)).trans (heap_alloc_new _ _),?_⟩;have:=heap_alloc_new (w.alloc (BH a b)) (BH 0 0)
  rwa [show (w.alloc (BH a b)).heap.size = w.heap.size + 1 by simp] at this
 have hws:w.heap.size + 1 < W.heap.size:=by rw [hW];simp
 have HV:Hid (TabAt S W v L):=hv.up HB0.out;obtain ⟨ao,cap,rfl,_,_⟩:=hv.open;have HOK:Hid (Sp.okN L):=hok;have HSM:Hid (s.size<=maxLen):=hs;have HCC:Hid (ChkSaid C):=hC;clear hv hok hs hC;obtain ⟨ce,hce⟩:=qE (Sp.stErr C (pl L) st);have HCE:Hid (Sp.stErr C (pl L) st = ce):=hce
 by_cases hz:ce = 0
 ·subst hz;obtain ⟨q,hq⟩:=qE (Sp.lookH (pl L) a b s);obtain ⟨fe,hfe⟩:=qE (Sp.lookErr (pl L) a b s);have HF:Hid (Sp.lookH (pl L) a b s = q/\Sp.lookErr (pl L) a b s = fe):=⟨hq,hfe⟩;rw [show Sp.toErr C (pl L) st a b s = fe by unfold Sp.toErr;rw [if_pos hce,hfe],show Sp.toH C (pl L) st a b s = q by unfold Sp.toH;rw [if_pos hce,hq]];clear hq hfe hce;go_enter Tryz.func156,Tryz.ntmps156;go_wp2_with fail;rw [← hW];refine (srefuse_any HCC.out _ L st _ HV.out HOK.out).mono ?_;rintro e w1 ⟨rfl,hb1⟩;rw [HCE.out];have HB1:=qJ HB0 hb1;have HA1:Hid (w1.heap[w.heap.size]? = some (BH a b)/\w1.heap[w.heap.size + 1]? = some (BH 0 0)):=⟨(hb1.block _ (by omega)).trans HA0.out.1,(hb1.block _ (by omega)).trans HA0.out.2⟩;have hws1:w.heap.size + 1 < w1.heap.size:=by have:=hb1.size;omega
  have HV1:Hid (TabAt S w1 (.slice ao L.length cap) L):=HV.out.up hb1;obtain ⟨⟨a0,a1⟩,_⟩:=two_of HA1.out.1;clear hb1 hW HV HA0;go_wp2_with fail;refine (sfind_any _ L a b s _ HV1.out HOK.out HSM.out).mono ?_;rintro e w2 ⟨rfl,hb2⟩;rw [HF.out.1,HF.out.2];have HB3:=qJ HB1 hb2;obtain ⟨⟨z0,z1⟩,zf⟩:=two_of ((hb2.block _ hws1).trans HA1.out.2);clear hb2 a0 a1;go_wp2
  (try simp only [Exit.inBlock,Exit.then])
  refine bodyPost_ret (v:=.tuple #[.agg #[.int .i64 q.1,.int .i64 q.2],.int .i64 fe]) ?_ rfl ⟨rfl,?_⟩
  ·rw [results_cell_tmp rfl]
   go_simp
  ·repeat (first | exact HB3.out | refine Below.setCell ?_ (by simp) _)
 ·rw [show Sp.toErr C (pl L) st a b s = ce by unfold Sp.toErr;rw [if_neg (by rw [hce];exact hz),hce],show Sp.toH C (pl L) st a b s = (0,0) by unfold Sp.toH;rw [if_neg (by rw [hce];exact hz)]];have hz':(ce != 0) = true:=by simpa using hz
  clear hz hce;go_enter Tryz.func156,Tryz.ntmps156;go_wp2_with fail;rw [← hW];refine (srefuse_any HCC.out _ L st _ HV.out HOK.out).mono ?_;rintro e w1 ⟨rfl,hb1⟩;rw [HCE.out];have HB1:=qJ HB0 hb1;obtain ⟨⟨z0,z1⟩,zf⟩:=two_of ((hb1.block _ (by omega)).trans HA0.out.2);clear hb1 hW HV HA0;go_wp2
  (try simp only [Exit.inBlock,Exit.then])
  refine bodyPost_ret (v:=.tuple #[.agg #[.int .i64 0,.int .i64 0],.int .i64 ce]) ?_ rfl ⟨rfl,?_⟩
  ·rw [results_cell_tmp rfl]
   go_simp
  ·repeat (first | exact HB1.out | refine Below.setCell ?_ (by simp) _)
theorem refuseMake_any {C : List Ino → Int} (hC : ChkSaid C) {S : Nat → Prop} (v : Value) (L : List Rw) (a b : Int) (s : ByteArray) (kind st : Int) (w : World) (hv : TabAt S w v L) (hok : Sp.okN L) (hs : s.size ≤ maxLen) :
    Calls Tryz.prog 185 #[v,.agg #[.int .i64 a,.int .i64 b],.string s,.int .i64 kind,.int .i64 st] w fun e w'=>e = .returned (.int .i64 (Sp.makeErr C (pl L) a b s kind st))/\Bw w w':=by
  have HB0:Hid (Bw w (w.alloc (BH a b))):=qG _ _;have HA0:Hid ((w.alloc (BH a b)).heap[w.heap.size]? = some (BH a b)):=heap_alloc_new _ _;obtain ⟨W,hW⟩:=qF (w.alloc (BH a b));rw [← hW] at HB0 HA0;have hws:w.heap.size < W.heap.size:=by rw [hW];simp
  have HV:Hid (TabAt S W v L):=hv.up HB0.out;obtain ⟨ao,cap,rfl,_,_⟩:=hv.open;have HOK:Hid (Sp.okN L):=hok;have HSM:Hid (s.size<=maxLen):=hs;have HCC:Hid (ChkSaid C):=hC;clear hv hok hs hC;obtain ⟨ce,hce⟩:=qE (Sp.stErr C (pl L) st);have HCE:Hid (Sp.stErr C (pl L) st = ce):=hce
  by_cases hz:ce = 0
  · subst hz
    obtain ⟨ne,hne⟩:=qE (Sp.nameErr (pl L) a b s);have HNE:Hid (Sp.nameErr (pl L) a b s = ne):=hne
    by_cases hk:kind = 1∨kind = 2
    · rw [show Sp.makeErr C (pl L) a b s kind st = ne by unfold Sp.makeErr; rw [if_pos hce, if_pos hk, hne]]
      clear hce hne;rcases hk with rfl | rfl
      · go_enter Tryz.func185, Tryz.ntmps185
        go_wp2_with fail;rw [← hW];refine (srefuse_any HCC.out _ L st _ HV.out HOK.out).mono ?_;rintro e w1 ⟨rfl,hb1⟩;rw [HCE.out];have HB1:Hid (Bw w w1):=HB0.out.trans (hb1.mono HB0.out.size);have HA1:=qK hb1 HA0;have HV1:Hid (TabAt S w1 (.slice ao L.length cap) L):=HV.out.up hb1;obtain ⟨⟨a0,a1⟩,_⟩:=two_of HA1.out;clear hb1 hW HV HA0;go_wp2_with fail;refine (refuseName_any _ L a b s _ HV1.out HOK.out HSM.out).mono ?_;rintro e w2 ⟨rfl,hb2⟩;rw [HNE.out];have HB2:Hid (Bw w w2):=HB1.out.trans (hb2.mono HB1.out.size);clear hb2 a0 a1;go_wp2;go_ret;exact ⟨rfl,HB2.out⟩
      · go_enter Tryz.func185, Tryz.ntmps185
        go_wp2_with fail;rw [← hW];refine (srefuse_any HCC.out _ L st _ HV.out HOK.out).mono ?_;rintro e w1 ⟨rfl,hb1⟩;rw [HCE.out];have HB1:Hid (Bw w w1):=HB0.out.trans (hb1.mono HB0.out.size);have HA1:=qK hb1 HA0;have HV1:Hid (TabAt S w1 (.slice ao L.length cap) L):=HV.out.up hb1;obtain ⟨⟨a0,a1⟩,_⟩:=two_of HA1.out;clear hb1 hW HV HA0;go_wp2_with fail;refine (refuseName_any _ L a b s _ HV1.out HOK.out HSM.out).mono ?_;rintro e w2 ⟨rfl,hb2⟩;rw [HNE.out];have HB2:Hid (Bw w w2):=HB1.out.trans (hb2.mono HB1.out.size);clear hb2 a0 a1;go_wp2;go_ret;exact ⟨rfl,HB2.out⟩
    · rw [show Sp.makeErr C (pl L) a b s kind st = 1 by unfold Sp.makeErr; rw [if_pos hce, if_neg hk]]
      have k1:(kind != 1) = true:=by simpa using fun h=>hk (.inl h)
      have k2:(kind != 2) = true:=by simpa using fun h=>hk (.inr h)
      clear hce hne hk;go_enter Tryz.func185,Tryz.ntmps185;go_wp2_with fail;rw [← hW];refine (srefuse_any HCC.out _ L st _ HV.out HOK.out).mono ?_;rintro e w1 ⟨rfl,hb1⟩;rw [HCE.out];have HB1:Hid (Bw w w1):=HB0.out.trans (hb1.mono HB0.out.size);clear hb1 hW HV HA0;go_wp2;go_ret;exact ⟨rfl,HB1.out⟩
  · rw [show Sp.makeErr C (pl L) a b s kind st = ce by unfold Sp.makeErr; rw [if_neg (by rw [hce]; exact hz), hce]]
    have hz':(ce != 0) = true:=by simpa using hz
    clear hz hce;go_enter Tryz.func185,Tryz.ntmps185;go_wp2_with fail;rw [← hW];refine (srefuse_any HCC.out _ L st _ HV.out HOK.out).mono ?_;rintro e w1 ⟨rfl,hb1⟩;rw [HCE.out];have HB1:Hid (Bw w w1):=HB0.out.trans (hb1.mono HB0.out.size);clear hb1 hW HV HA0;go_wp2;go_ret;exact ⟨rfl,HB1.out⟩
end Go.Proofs.YtneojimodomohaaGreat
