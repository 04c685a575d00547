/- NCu, as one. -/
import Derived.Test.YtneojimodomohaaGreatV28
set_option maxHeartbeats 8000000
set_option maxRecDepth 100000
set_option linter.unusedSimpArgs false
namespace Go.Proofs.YtneojimodomohaaGreat
open Go.ChangeShapes Go.WideShapes Go.ChangeAt Go.RowKit Go.Deep It
theorem run_at {base:Nat} {w:World} {v:Value} {e:TypeId} {l:List (Int × ByteArray)} (h:w.ownsRow base e 2 v l.length (Bs.cellsOf l)):At ER (fun b=>base<=b) w v l:=by
 have hlt:=h.lt;rcases h.2 with ⟨rfl,hn⟩ | ⟨g,cap,cur,rfl,hbg,hg,hnc,hcm,hcs,htake⟩
 ·exact .inl ⟨none,0,rfl,List.eq_nil_of_length_eq_zero hn⟩
 ·by_cases hp:0 < l.length
  ·refine .inr ⟨g,0,cap,rfl,hbg,(hlt g rfl).2,hp,hnc,hcm,fun j u hj=>?_⟩;have h0:=h.cells (g:=g) rfl j u hj;rw [WideShapes.add_plain] at h0;simpa using h0
  ·have:l = []:=List.eq_nil_of_length_eq_zero (by omega);subst this;exact .inl ⟨_,_,rfl,rfl⟩
theorem ok_right {l:List (Int × ByteArray)} (h:Bs.Bl.right (-1) l):okFields l/\l.length<=5864062014805:=by
 have hl:=Bs.Bl.right_length h (by decide);have hM:Bs.Bl.MAX = 1048576:=rfl;refine ⟨fun r hr=>?_,by omega⟩;have hm:=Bs.Bl.right_mem h r hr;unfold Bs.Bl.rend at hm;unfold maxLen;omega
theorem cut_right {l:List (Int × ByteArray)} {s:Int} (h:Bs.Bl.right (-1) l):Bs.Bl.right (-1) (Bs.Bl.within 0 s l):=by
 have go:∀ (l:List Bs.Bl.R) (a c:Int),Bs.Bl.right a l->c<=a->Bs.Bl.right c (Bs.Bl.within 0 s l):=by
  intro l
  induction l with
  | nil=>intro a c _ _;trivial
  | cons r l ih =>
   intro a c h hc;obtain ⟨⟨h1,h2,h3⟩,h4⟩:=h;have hrs:a<=Bs.Bl.rend r:=by unfold Bs.Bl.rend;omega
   cases hq:Bs.Bl.clip 0 s r with
   | none =>
    have e:Bs.Bl.within 0 s (r :: l) = Bs.Bl.within 0 s l:=by simp [Bs.Bl.within,hq]
    rw [e];exact ih _ _ h4 (by omega)
   | some q =>
    have e:Bs.Bl.within 0 s (r :: l) = q :: Bs.Bl.within 0 s l:=by simp [Bs.Bl.within,hq]
    rw [e];obtain ⟨q1,q2,q3⟩:=Bs.Bl.clip_some hq;have hq4:Bs.Bl.rend q<=Bs.Bl.rend r:=by omega
    refine ⟨⟨by omega,by omega,?_⟩,ih _ _ h4 hq4⟩;unfold Bs.Bl.rend at q2 hq4;omega
 exact go l _ _ h (Int.le_refl _)
theorem cut_ok' (l:List (Int × ByteArray)) (s:Int):okFields (Bs.Bl.cOut l s)/\(Bs.Bl.cOut l s).length<=5864062014805:=by
 unfold Bs.Bl.cOut
 by_cases h:Bs.Bl.cErr l s = 0
 ·rw [if_pos h];unfold Bs.Bl.cErr at h
  by_cases hr:Bs.Bl.right (-1) l
  ·exact ok_right (cut_right hr)
  ·rw [if_neg hr] at h;simp at h
 ·rw [if_neg h];exact ⟨fun r hr=>by simp at hr,by simp⟩
namespace Nf
noncomputable def cuX (x:Ino) (c:Cal) (dn:Int):Ino:={ x with size:=c.pl,stamp:=dn,runs:=Bs.Bl.cOut x.runs c.pl }
noncomputable def gE (x:Ino) (n dn:Int):Int:=At.growErr x.kind x.links x.size x.stamp n dn
noncomputable def cuR (L:List Ino) (c:Cal) (dn:Int):Value :=
 if fndE L c.no c.gen 1 405 = 0 then
  if gE (findI L c.no c.gen) c.pl dn = 0 then VRp (putErr L c.no c.gen (cuX (findI L c.no c.gen) c dn)) 0 0 (findI L c.no c.gen).kind (findI L c.no c.gen).links c.pl dn ⟨#[]⟩ (.slice none 0 0) 0
  else VBad (gE (findI L c.no c.gen) c.pl dn)
 else VBad (fndE L c.no c.gen 1 405)
noncomputable def cuT (L:List Ino) (c:Cal) (dn:Int):List Ino :=
 if fndE L c.no c.gen 1 405 = 0 then if gE (findI L c.no c.gen) c.pl dn = 0 then ptT L c.no c.gen (cuX (findI L c.no c.gen) c dn) else L else L
end Nf
theorem ncut_any {S:Nat->Prop} (vi vo vs:Value) (dn cl:Int) (c:Cal) (L:List Rw) (B:Nat) (w:World) (hB:w.heap[B]? = some (BTk vi vo vs dn cl c)) (hv:TabAt S w vi L) :
  Calls Tryz.prog 53 #[.pointer (some ⟨B,0,none⟩)] w fun e w'=>∃ u,e = .returned (Nf.cuR (pl L) c dn)/\w'.heap[B]? = some (BTk u vo vs dn cl c)/\Nf.Now (w.heap.size + 1) w' vi u (pl L) (Nf.cuT (pl L) c dn)/\w.grownBy w' (some B):=by
 have hBl:=(qL hB);obtain ⟨W,hW⟩:=qF (w.alloc BR0);have HB0:Hid _:=qB hW;have HA0:Hid _:=qC hW;have HT0:Hid (W.heap[B]? = some (BTk vi vo vs dn cl c)):=(HB0.out.block _ hBl).trans hB;have HV:Hid (TabAt (fun b=>b < w.heap.size) W vi L):=(hv.imp (fun _ _ hl=>hl)).up HB0.out;have hwW:w.heap.size < W.heap.size:=(qL HA0.out);have hBW:B < W.heap.size:=(qL HT0.out);have hBne:B≠w.heap.size:=by omega
 obtain ⟨R,hR⟩:=qE (Nf.cuR (pl L) c dn);obtain ⟨T,hT⟩:=qE (Nf.cuT (pl L) c dn);rw [hR,hT];unfold Nf.cuR at hR;unfold Nf.cuT at hT;obtain ⟨fe,hfe⟩:=qE (Nf.fndE (pl L) c.no c.gen 1 405);have HF:Hid (Nf.fndE (pl L) c.no c.gen 1 405 = fe):=hfe;rw [hfe] at hR hT;have HRR:Hid ((if fe = 0 then if Nf.gE (findI (pl L) c.no c.gen) c.pl dn = 0 then VRp (putErr (pl L) c.no c.gen (Nf.cuX (findI (pl L) c.no c.gen) c dn)) 0 0 (findI (pl L) c.no c.gen).kind (findI (pl L) c.no c.gen).links c.pl dn ⟨#[]⟩ (.slice none 0 0) 0 else VBad (Nf.gE (findI (pl L) c.no c.gen) c.pl dn) else VBad fe) = R):=hR;have HTT:Hid ((if fe = 0 then if Nf.gE (findI (pl L) c.no c.gen) c.pl dn = 0 then Nf.ptT (pl L) c.no c.gen (Nf.cuX (findI (pl L) c.no c.gen) c dn) else pl L else pl L) = T):=hT;clear hv hB hfe hR hT;go_enter Tryz.func53,Tryz.ntmps53;go_wp2_with fail;rw [← hW];clear hW;refine (nfile_any vi vo vs dn cl c L B W HT0.out HV.out).mono ?_;rintro e w1 ⟨x,rfl,hxi,hxg,hb1⟩;rw [HF.out] at hxi ⊢;obtain ⟨Y,hY⟩:=qF (w1.alloc (BIx x));have bw1:Bw w1 Y:=by rw [hY];exact qG _ _
 have hbY:Bw W Y:=hb1.trans (bw1.mono hb1.size);have HBY:Hid (Bw w Y):=HB0.out.trans (hbY.mono HB0.out.size);have HZ:=qK hbY HA0;have HTY:=qK hbY HT0;have HXA:Hid _:=qC hY;have HG:Hid (Good (fun b=>b < w1.heap.size) Y x):=(hxg.imp (fun _ _ hl=>hl)).up bw1;have HVY:Hid (TabAt (fun b=>b < w.heap.size) Y vi L):=HV.out.up hbY;have HXI:Hid (x.i = if fe = 0 then findI (pl L) c.no c.gen else zeroI):=hxi;have hzl:=(qL HZ.out);have hBY:=(qL HTY.out);have hzl1:w.heap.size < w1.heap.size:=by have:=hb1.size;omega
 have hBX:B < w1.heap.size:=by have:=hb1.size;omega
 have hXY:w1.heap.size < Y.heap.size:=(qL HXA.out);clear hb1 bw1 hbY hxg hxi HA0 HT0 HV HB0
 by_cases h0:fe = 0
 ·obtain ⟨X,hX⟩:=qE w1.heap.size;have hxx:=HXI.out;rw [if_pos h0] at hxx;obtain ⟨ge,hge⟩:=qE (Nf.gE x.i c.pl dn);have HR1:Hid ((if ge = 0 then VRp (putErr (pl L) c.no c.gen (Nf.cuX x.i c dn)) 0 0 x.i.kind x.i.links c.pl dn ⟨#[]⟩ (.slice none 0 0) 0 else VBad ge) = R):=by
   have:=HRR.out;rw [if_pos h0,← hxx,hge] at this;exact this
  have HT1:Hid ((if ge = 0 then Nf.ptT (pl L) c.no c.gen (Nf.cuX x.i c dn) else pl L) = T):=by
   have:=HTT.out;rw [if_pos h0,← hxx,hge] at this;exact this
  subst h0;obtain ⟨K1,K2,K3,K4,hKK,hK0⟩:∃ K1 K2 K3 K4,At.growOut x.i.kind x.i.links x.i.size x.i.stamp c.pl dn = VA K1 K2 K3 K4/\(ge = 0->K1 = x.i.kind/\K2 = x.i.links/\K3 = c.pl/\K4 = dn):=by
   unfold Nf.gE at hge;unfold At.growOut;rw [hge]
   by_cases hz:ge = 0
   ·rw [if_pos hz];exact ⟨_,_,_,_,rfl,fun _=>⟨rfl,rfl,rfl,rfl⟩⟩
   ·rw [if_neg hz];exact ⟨_,_,_,_,rfl,fun h=>absurd h hz⟩
  have HKK:Hid (ge = 0->K1 = x.i.kind/\K2 = x.i.links/\K3 = c.pl/\K4 = dn):=hK0;have HC:Hid (∀ V:World,Calls Tryz.prog 99 #[VA x.i.kind x.i.links x.i.size x.i.stamp,.int .i64 c.pl,.int .i64 dn] V fun e w'=>e = .returned (.tuple #[VA K1 K2 K3 K4,.int .i64 ge])/\Bw V w'):=fun V=>by
   have:=grow_any x.i.kind x.i.links x.i.size x.i.stamp c.pl dn V;unfold Nf.gE at hge;rw [hKK,hge] at this;exact this
  clear hxx HXI HRR HTT hge hKK hK0 HF;go_wp2_with fail;rw [← hY];clear hY;rw [hX] at HXA HG hzl1 hBX hXY
  (try rw [hX])
  have HSG:Hid (∀ V:World,Bw Y V->V.cell? ⟨X,1,none⟩ = some (.int .i64 x.i.kind)/\V.cell? ⟨X,2,none⟩ = some (.int .i64 x.i.links)/\V.cell? ⟨X,3,none⟩ = some (.int .i64 x.i.size)/\V.cell? ⟨X,4,none⟩ = some (.int .i64 x.i.stamp)/\V.cell? ⟨B,12,none⟩ = some (.int .i64 c.pl)/\V.cell? ⟨B,3,none⟩ = some (.int .i64 dn)):=fun V h=>by
   obtain ⟨-,-,-,t3,-,-,-,-,-,-,-,-,t12,-,-⟩:=tk_of HTY.out;have k1:=cell_at HXA.out 1;have k2:=cell_at HXA.out 2;have k3:=cell_at HXA.out 3;have k4:=cell_at HXA.out 4;simp at k1 k2 k3 k4;exact ⟨cell_step k1 h,cell_step k2 h,cell_step k3 h,cell_step k4 h,cell_step t12 h,cell_step t3 h⟩
  clear hX;refine wp_region_any (by kernel_rfl) ?_;change wpAny _ _ _ _ _ _ _ (World.drew _);refine qV (i:=0) rfl ?_
  try simp only [qS]
  refine qV (i:=2) rfl ?_
  try simp only [qS]
  refine qV (i:=3) rfl ?_
  try simp only [qS]
  refine qV (i:=4) rfl ?_
  try simp only [qS]
  refine qV (i:=5) rfl ?_
  try simp only [qS]
  refine qV (i:=7) rfl ?_
  try simp only [qS]
  refine qV (i:=8) rfl ?_
  try simp only [qS]
  refine qV (i:=9) rfl ?_
  try simp only [qS]
  refine qV (i:=10) rfl ?_
  try simp only [qS]
  have HS:(fun V:World=>V.cell? ⟨X,1,none⟩ = some (.int .i64 x.i.kind)/\V.cell? ⟨X,2,none⟩ = some (.int .i64 x.i.links)/\V.cell? ⟨X,3,none⟩ = some (.int .i64 x.i.size)/\V.cell? ⟨X,4,none⟩ = some (.int .i64 x.i.stamp)/\V.cell? ⟨B,12,none⟩ = some (.int .i64 c.pl)/\V.cell? ⟨B,3,none⟩ = some (.int .i64 dn)) Y.drew:=HSG.out _ (bel_drew (Below.refl _ _));refine Fst.any_of (late:=fun k=>[12,13,14,15,16,17,18].contains k) (S:=fun V:World=>V.cell? ⟨X,1,none⟩ = some (.int .i64 x.i.kind)/\V.cell? ⟨X,2,none⟩ = some (.int .i64 x.i.links)/\V.cell? ⟨X,3,none⟩ = some (.int .i64 x.i.size)/\V.cell? ⟨X,4,none⟩ = some (.int .i64 x.i.stamp)/\V.cell? ⟨B,12,none⟩ = some (.int .i64 c.pl)/\V.cell? ⟨B,3,none⟩ = some (.int .i64 dn)) _ _ _ _ ?_;refine Fst.tk (ls:=[12,13,14,15,16,17,18]) (i:=1) (v:=?v10) rfl (Or.inl ⟨by rfl,?h10⟩) HS ?r10
  case h10=>(rintro V ⟨s1,s2,s3,s4,s12,s0⟩;go_simp;try with_reducible rfl)
  try simp only [qS]
  refine Fst.tk (ls:=[12,13,14,15,16,17,18]) (i:=6) (v:=?v11) rfl (Or.inl ⟨by rfl,?h11⟩) HS ?r11
  case h11=>(rintro V ⟨s1,s2,s3,s4,s12,s0⟩;go_simp;try with_reducible rfl)
  try simp only [qS]
  refine Fst.tk (ls:=[12,13,14,15,16,17,18]) (i:=11) (v:=?v12) rfl (Or.inl ⟨by rfl,?h12⟩) HS ?r12
  case h12=>(rintro V ⟨s1,s2,s3,s4,s12,s0⟩;go_simp;try with_reducible rfl)
  try simp only [qS]
  refine Fst.rest (by kernel_rfl) ?_;refine wpAny_ready (rs:=[12]) (by kernel_rfl) (by simp) ?_;refine AllReady.cons rfl (fun K hK=>?_) AllReady.nil
  go_simp
  refine (HC.out _).mono ?_;rintro e w5 ⟨rfl,hb5⟩;have hb55:Bw Y w5:=undrew hb5;have HB5:Hid (Bw w w5):=HBY.out.trans (hb55.mono HBY.out.size);have HT5:=qK hb55 HTY;have HZ5:=qK hb55 HZ;have HX5:=qK hb55 HXA;have HG5:Hid (Good (fun b=>b < X) w5 x):=HG.out.up hb55;have HV5:Hid (TabAt (fun b=>b < w.heap.size) w5 vi L):=HVY.out.up hb55;have hX5:X < w5.heap.size:=(qL HX5.out);have k1:=cell_at HX5.out 1;have k2:=cell_at HX5.out 2;have k3:=cell_at HX5.out 3;have k4:=cell_at HX5.out 4;have kf:=fr_at HX5.out;simp at k1 k2 k3 k4;clear hb5 hb55 HC HSG HS HBY HTY HZ HXA HG HVY hzl hBY hXY
  (try go_wp2_with fail)
  first | (refine hK _ _ ?_;clear hK K) | skip
  try simp only [qS]
  refine qV (i:=13) rfl ?_
  try simp only [qS]
  refine qV (i:=14) rfl ?_
  try simp only [qS]
  refine qV (i:=15) rfl ?_
  try simp only [qS]
  refine qV (i:=16) rfl ?_
  try simp only [qS]
  refine wpAny_ready (rs:=[17]) (by kernel_rfl) (by simp) ?_;refine AllReady.cons rfl (fun K hK=>?_) AllReady.nil
  go_simp
  (try go_wp2_with fail)
  first | (refine hK _ _ ?_;clear hK K) | skip
  try simp only [qS]
  refine wpAny_ready (rs:=[18]) (by kernel_rfl) (by simp) ?_;refine AllReady.cons rfl (fun K hK=>?_) AllReady.nil
  go_simp
  (try go_wp2_with fail)
  first | (refine hK _ _ ?_;clear hK K) | skip
  try simp only [qS]
  refine wpAny_done (by kernel_rfl) ?_ _;obtain ⟨w6,hw6⟩:=qF ((((w5.setCell ⟨X,1,none⟩ (.int .i64 K1)).setCell ⟨X,2,none⟩ (.int .i64 K2)).setCell ⟨X,3,none⟩ (.int .i64 K3)).setCell ⟨X,4,none⟩ (.int .i64 K4));rw [← hw6];have hw7:w6 = w5.setCells X 1 [.int .i64 K1,.int .i64 K2,.int .i64 K3,.int .i64 K4]:=hw6;have HX6:Hid (w6.heap[X]? = some (B8 x.i.gen K1 K2 K3 K4 (.slice x.rp x.rn x.rc) (.slice x.ep x.en x.ec) x.i.next)):=by
   show w6.heap[X]? = _;rw [hw6];have h4:=set_at (set_at (set_at (set_at HX5.out 1 (.int .i64 K1)) 2 (.int .i64 K2)) 3 (.int .i64 K3)) 4 (.int .i64 K4);simpa using h4
  have HT6:Hid (w6.heap[B]? = some (BTk vi vo vs dn cl c)):=by show _ = _;rw [hw7];exact (setCells_off _ _ _ (by omega)).trans HT5.out
  have HZ6:Hid (w6.heap[w.heap.size]? = some BR0):=by show _ = _;rw [hw7];exact (setCells_off _ _ _ (by omega)).trans HZ5.out
  have HB6:Hid (Bw w w6):=by show Below _ _ _;rw [hw7];exact setCells_below (by omega) _ _ _ HB5.out
  have HG6:Hid (Good (fun b=>b < X) w6 x):=by show Good _ _ _;rw [hw7];exact setCells_good (S:=fun b=>b < X) (by show ¬ X < X;omega) _ _ _ HG5.out
  have HV6:Hid (TabAt (fun b=>b < w.heap.size) w6 vi L):=by show TabAt _ _ _ _;rw [hw7];exact setCells_tab (by show ¬ X < w.heap.size;omega) _ _ _ HV5.out
  have hX6:X < w6.heap.size:=(qL HX6.out);have hB6:=(qL HT6.out);have hz6:=(qL HZ6.out);clear hw6 hw7 HX5 HT5 HZ5 HB5 HG5 HV5 hX5 k1 k2 k3 k4 kf
  by_cases hg0:ge = 0
  ·subst hg0;obtain ⟨e1,e2,e3,e4⟩:=HKK.out rfl;subst e1 e2 e3;have e5:=e4.symm;subst e5;have hR:=HR1.out;have hT:=HT1.out;rw [if_pos rfl] at hR hT;have HR:Hid (VRp (putErr (pl L) c.no c.gen (Nf.cuX x.i c dn)) 0 0 x.i.kind x.i.links c.pl dn ⟨#[]⟩ (.slice none 0 0) 0 = R):=hR;have HT:Hid (Nf.ptT (pl L) c.no c.gen (Nf.cuX x.i c dn) = T):=hT;clear HR1 HT1 HKK hR hT;have HC:Hid (∀ V,Bw w6 V->Calls Tryz.prog 102 #[.slice x.rp x.rn x.rc,.int .i64 c.pl] V fun e w'=>∃ p m q ce,e = .returned (.tuple #[.slice p m q,.int .i64 ce])/\At ER (fun b=>X < b) w' (.slice p m q) (Bs.Bl.cOut x.i.runs c.pl)/\Bw V w'):=fun V h=>by
    have hg:=good_runs (HG6.out.up h);refine (Bs.cut_any (.slice x.rp x.rn x.rc) x.i.runs c.pl V hg.1 hg.2).mono ?_;rintro e w' ⟨r,h1,h2,h3⟩;have ha:=run_at h2;obtain ⟨ao,cap,hr,-,-⟩:=ha.open;subst hr;have hs:=h.size;exact ⟨_,_,_,_,h1,ha.imp (fun b hb _=>by show X < b;omega),h3⟩
   have HSG:Hid (∀ V:World,Bw w6 V->V.cell? ⟨X,5,none⟩ = some (.slice x.rp x.rn x.rc)/\V.cell? ⟨B,12,none⟩ = some (.int .i64 c.pl)):=fun V h=>by
    obtain ⟨-,-,-,-,-,-,-,-,-,-,-,-,t12,-,-⟩:=tk_of HT6.out;have k5:=cell_at HX6.out 5;simp at k5;exact ⟨cell_step k5 h,cell_step t12 h⟩
   go_wp2_with fail;refine wp_region_any (by kernel_rfl) ?_;change wpAny _ _ _ _ _ _ _ (World.drew _);refine qV (i:=0) rfl ?_
   try simp only [qS]
   refine qV (i:=2) rfl ?_
   try simp only [qS]
   refine qV (i:=3) rfl ?_
   try simp only [qS]
   refine qV (i:=4) rfl ?_
   try simp only [qS]
   refine qV (i:=5) rfl ?_
   try simp only [qS]
   have HS:(fun V:World=>V.cell? ⟨X,5,none⟩ = some (.slice x.rp x.rn x.rc)/\V.cell? ⟨B,12,none⟩ = some (.int .i64 c.pl)) w6.drew:=HSG.out _ (bel_drew (Below.refl _ _));refine Fst.any_of (late:=fun k=>[7,8,9,10,11,12].contains k) (S:=fun V:World=>V.cell? ⟨X,5,none⟩ = some (.slice x.rp x.rn x.rc)/\V.cell? ⟨B,12,none⟩ = some (.int .i64 c.pl)) _ _ _ _ ?_;refine Fst.tk (ls:=[7,8,9,10,11,12]) (i:=1) (v:=?v22) rfl (Or.inl ⟨by rfl,?h22⟩) HS ?r22
   case h22=>(rintro V ⟨s5,s12⟩;go_simp;try with_reducible rfl)
   try simp only [qS]
   refine Fst.tk (ls:=[7,8,9,10,11,12]) (i:=6) (v:=?v23) rfl (Or.inl ⟨by rfl,?h23⟩) HS ?r23
   case h23=>(rintro V ⟨s5,s12⟩;go_simp;try with_reducible rfl)
   try simp only [qS]
   refine Fst.rest (by kernel_rfl) ?_;refine wpAny_ready (rs:=[7]) (by kernel_rfl) (by simp) ?_;refine AllReady.cons rfl (fun K hK=>?_) AllReady.nil
   go_simp
   refine (HC.out _ (bel_drew (Below.refl _ _))).mono ?_;rintro e w7 ⟨p,m,q,ce,rfl,ha7,hb7⟩;have hb77:Bw w6 w7:=undrew hb7;have HB7:Hid (Bw w w7):=HB6.out.trans (hb77.mono HB6.out.size);have HT7:=qK hb77 HT6;have HZ7:=qK hb77 HZ6;have HX7:=qK hb77 HX6;have HG7:Hid (Good (fun b=>b < X) w7 x):=HG6.out.up hb77;have HV7:Hid (TabAt (fun b=>b < w.heap.size) w7 vi L):=HV6.out.up hb77;have HA7:Hid (At ER (fun b=>X < b) w7 (.slice p m q) (Bs.Bl.cOut x.i.runs c.pl)):=ha7;have k5:=cell_at HX7.out 5;have kf:=fr_at HX7.out;simp at k5;clear hb7 hb77 ha7 HC HSG HS HB6 HT6 HZ6 HX6 HG6 HV6
   (try go_wp2_with fail)
   first | (refine hK _ _ ?_;clear hK K) | skip
   try simp only [qS]
   refine qV (i:=8) rfl ?_
   try simp only [qS]
   refine qV (i:=9) rfl ?_
   try simp only [qS]
   refine qV (i:=10) rfl ?_
   try simp only [qS]
   refine qV (i:=11) rfl ?_
   try simp only [qS]
   refine wpAny_ready (rs:=[12]) (by kernel_rfl) (by simp) ?_;refine AllReady.cons rfl (fun K hK=>?_) AllReady.nil
   go_simp
   (try go_wp2_with fail)
   first | (refine hK _ _ ?_;clear hK K) | skip
   try simp only [qS]
   refine wpAny_done (by kernel_rfl) ?_ _;obtain ⟨w8,hw8⟩:=qF (w7.setCell ⟨X,5,none⟩ (.slice p m q));rw [← hw8];obtain ⟨y,hy⟩:∃ y:Rw,y = ⟨Nf.cuX x.i c dn,p,m,q,x.ep,x.en,x.ec⟩:=⟨_,rfl⟩;have HYI:Hid (y.i = Nf.cuX x.i c dn):=by show _ = _;rw [hy]
   have HX8:Hid (w8.heap[X]? = some (B8 x.i.gen x.i.kind x.i.links c.pl dn (.slice p m q) (.slice x.ep x.en x.ec) x.i.next)):=by
    show w8.heap[X]? = _;rw [hw8];have h4:=set_at HX7.out 5 (.slice p m q);simpa using h4
   have HT8:Hid (w8.heap[B]? = some (BTk vi vo vs dn cl c)):=by show _ = _;rw [hw8];exact (Below.heap_setCell _ _ _ _ (show B≠X by omega)).trans HT7.out
   have HZ8:Hid (w8.heap[w.heap.size]? = some BR0):=by show _ = _;rw [hw8];exact (Below.heap_setCell _ _ _ _ (show w.heap.size≠X by omega)).trans HZ7.out
   have HB8:Hid (Bw w w8):=by show Below _ _ _;rw [hw8];exact Below.setCell HB7.out (by show w.heap.size<=X;omega) _
   have HV8:Hid (TabAt (fun b=>b < w.heap.size) w8 vi L):=by show TabAt _ _ _ _;rw [hw8];exact setCells_tab (A:=X) (by show ¬ X < w.heap.size;omega) [.slice p m q] 5 _ HV7.out
   have HG8:Hid (Good (fun b=>b≠X) w8 y):=by
    show Good _ _ _;rw [hy,hw8];have hok:=cut_ok' x.i.runs c.pl;exact ⟨(HA7.out.imp (fun b hb _=>by show b≠X;omega)).setCell (fun h=>h rfl) _,(HG7.out.2.1.imp (fun b hb _=>by show b≠X;omega)).setCell (fun h=>h rfl) _,hok.1,hok.2,HG7.out.2.2.2.2⟩
   have HVI:Hid (VI y = .agg #[.int .i64 x.i.gen,.int .i64 x.i.kind,.int .i64 x.i.links,.int .i64 c.pl,.int .i64 dn,.slice p m q,.slice x.ep x.en x.ec,.int .i64 x.i.next]):=by show _ = _;rw [hy];rfl
   have hz8:=(qL HZ8.out);have k0:=cell_at HX8.out 0;have k1:=cell_at HX8.out 1;have k2:=cell_at HX8.out 2;have k3:=cell_at HX8.out 3;have k4:=cell_at HX8.out 4;have k5':=cell_at HX8.out 5;have k6:=cell_at HX8.out 6;have k7:=cell_at HX8.out 7;simp at k0 k1 k2 k3 k4 k5' k6 k7;clear hw8 hy k5 kf HB7 HT7 HZ7 HX7 HG7 HV7 HA7;go_wp2_with fail;rw [← HVI.out];refine (nput_any vi vo vs dn cl c L B y w8 HT8.out HV8.out HG8.out).mono ?_;rintro e w9 ⟨u,rfl,hB9,hn9,hg9⟩;rw [HYI.out] at hn9 ⊢;have hR:=HR.out;rw [HT.out] at hn9;have HZ9:Hid (w9.heap[w.heap.size]? = some BR0):=(hg9.block _ hz8 (by simp;omega)).trans HZ8.out;obtain ⟨g0,g1,g2,g3,g4,g5,g6,g7,g8,g9⟩:=rp_of HZ9.out;have gg:=fr_at HZ9.out;have HB9:Hid (w9.heap[B]? = some (BTk u vo vs dn cl c)):=hB9;have HN9:Hid (Nf.Now (w8.heap.size + 1) w9 vi u (pl L) T):=hn9;have HG9:Hid (w.grownBy w9 (some B)):=grown_trans (grown_of_below HB8.out _) hg9;have HR9:Hid (VRp (putErr (pl L) c.no c.gen (Nf.cuX x.i c dn)) 0 0 x.i.kind x.i.links c.pl dn ⟨#[]⟩ (.slice none 0 0) 0 = R):=hR;obtain ⟨pe,hpe⟩:=qE (putErr (pl L) c.no c.gen (Nf.cuX x.i c dn));rw [hpe] at HR9 ⊢;clear hB9 hn9 hg9 hR hpe;have hy1:(Nf.cuX x.i c dn).kind = x.i.kind:=rfl;have hy2:(Nf.cuX x.i c dn).links = x.i.links:=rfl;have hy3:(Nf.cuX x.i c dn).size = c.pl:=rfl;have hy4:(Nf.cuX x.i c dn).stamp = dn:=rfl;rw [hy1,hy2,hy3,hy4];go_wp2
   (try simp only [Exit.inBlock,Exit.then])
   refine bodyPost_ret (v:=R) ?_ rfl ⟨u,rfl,?_,?_,?_⟩
   ·rw [results_cell1 rfl,← HR9.out]
    go_simp
   ·repeat (with_reducible refine (Below.heap_setCell _ _ _ _ (show B≠w.heap.size from hBne)).trans ?_)
    exact HB9.out
   ·rcases HN9.out with ⟨h1,h2⟩ | ⟨L',h1,h2⟩
    ·exact .inl ⟨h1,h2⟩
    ·refine .inr ⟨L',?_,h2⟩;refine TabAt.imp ?_ (S:=fun b=>w8.heap.size + 1<=b) (fun b hb _=>by omega);exact setCells_tab (A:=w.heap.size) (S:=fun b=>w8.heap.size + 1<=b) (by show ¬ w8.heap.size + 1<=w.heap.size;omega) (cV pe 0 0 x.i.kind x.i.links c.pl dn) 0 _ h1
   ·repeat (with_reducible refine gr_set ?_ (.inl (Nat.le_refl w.heap.size)) _)
    exact HG9.out
  ·have hz:(ge != 0) = true:=by simpa using hg0
   have hR:=HR1.out;have hT:=HT1.out;rw [if_neg hg0] at hR hT;have HRb:Hid (VBad ge = R):=hR;have HTb:Hid (pl L = T):=hT;clear hR hT HR1 HT1 HKK hg0 HG6;go_wp2_with fail;refine (wrong_any ge _).mono ?_;rintro e w7 ⟨rfl,hb7⟩;have HB7:Hid (Bw w w7):=HB6.out.trans (hb7.mono HB6.out.size);have HZ7:=qK hb7 HZ6;have HT7:=qK hb7 HT6;obtain ⟨g0,g1,g2,g3,g4,g5,g6,g7,g8,g9⟩:=rp_of HZ7.out;have gg:=fr_at HZ7.out;clear hb7;go_wp2
   (try simp only [Exit.inBlock,Exit.then])
   refine bodyPost_ret (v:=R) ?_ rfl ⟨vi,rfl,?_,.inl ⟨rfl,HTb.out.symm⟩,?_⟩
   ·rw [results_cell1 rfl,← HRb.out]
    go_simp
   ·repeat (with_reducible refine (Below.heap_setCell _ _ _ _ (show B≠w.heap.size from hBne)).trans ?_)
    exact HT7.out
   ·repeat (with_reducible refine gr_set ?_ (.inl (Nat.le_refl w.heap.size)) _)
    exact grown_of_below HB7.out _
 ·have hz:(fe != 0) = true:=by simpa using h0
  have hR:=HRR.out;have hT:=HTT.out;rw [if_neg h0] at hR hT;have HRb:Hid (VBad fe = R):=hR;have HTb:Hid (pl L = T):=hT;clear hR hT HRR HTT HXI h0 HG HF;go_wp2_with fail;rw [← hY];clear hY;refine (wrong_any fe _).mono ?_;rintro e w7 ⟨rfl,hb7⟩;have HB7:Hid (Bw w w7):=HBY.out.trans (hb7.mono HBY.out.size);have HZ7:=qK hb7 HZ;have HT7:=qK hb7 HTY;obtain ⟨g0,g1,g2,g3,g4,g5,g6,g7,g8,g9⟩:=rp_of HZ7.out;have gg:=fr_at HZ7.out;clear hb7;go_wp2
  (try simp only [Exit.inBlock,Exit.then])
  refine bodyPost_ret (v:=R) ?_ rfl ⟨vi,rfl,?_,.inl ⟨rfl,HTb.out.symm⟩,?_⟩
  ·rw [results_cell1 rfl,← HRb.out]
   go_simp
  ·repeat (with_reducible refine (Below.heap_setCell _ _ _ _ (show B≠w.heap.size from hBne)).trans ?_)
   exact HT7.out
  ·repeat (with_reducible refine gr_set ?_ (.inl (Nat.le_refl w.heap.size)) _)
   exact grown_of_below HB7.out _
end Go.Proofs.YtneojimodomohaaGreat
