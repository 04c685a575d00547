/- OOpening, NOp, NRl, OClosing, as one. -/
import Derived.Test.YtneojimodomohaaGreatV22
set_option maxHeartbeats 8000000
set_option maxRecDepth 100000
namespace Go.Proofs.YtneojimodomohaaGreat.Os
open Go.ChangeShapes Go.WideShapes Go.ChangeAt Go.RowKit Go.Deep
theorem cell_lt {w:World} {b j:Nat} {v:Value} (h:w.cell? ⟨b,j,none⟩ = some v):b < w.heap.size:=by
 unfold World.cell? at h
 by_cases hb:b < w.heap.size
 ·exact hb
 ·rw [Array.getElem?_eq_none (by simpa using hb)] at h;simp at h
theorem cell_step {w w':World} {b j:Nat} {v:Value} (h:w.cell? ⟨b,j,none⟩ = some v) (hb:Bw w w'):w'.cell? ⟨b,j,none⟩ = some v:=cell_next h hb (cell_lt h)
theorem undrew {w w':World} (h:Below w.drew.heap.size w.drew w'):Bw w w':=⟨h.os,h.tape,h.output,h.size,h.block⟩
theorem _root_.Go.Proofs.YtneojimodomohaaGreat.At.cuto {α:Type} {E:Enc α} {S:Nat->Prop} {w:World} {ao:Option Addr} {m cap:Nat} {l:List α} (h:At E S w (.slice ao m cap) l) {lo hi:Nat} (h1:lo<=hi) (h2:hi<=m):At E S w (sliced ao lo hi cap E.sz) ((l.take hi).drop lo):=by
 by_cases he:hi = lo
 ·have hz:(l.take hi).drop lo = []:=by
   apply List.eq_nil_of_length_eq_zero
   simp;omega
  unfold sliced;rw [hz,show hi - lo = 0 by omega];exact .inl ⟨_,_,rfl,rfl⟩
 ·rcases h with ⟨ao,c,hv,rfl⟩ | ⟨b,off,c',hv,hS,hb,hp,hc,hm,hx⟩
  ·simp only [Value.slice.injEq] at hv;omega
  ·simp only [Value.slice.injEq] at hv;obtain ⟨rfl,rfl,rfl⟩:=hv;have hlen:((l.take hi).drop lo).length = hi - lo:=by simp;omega
   refine .inr ⟨b,off + lo * E.sz,cap - lo,?_,hS,hb,by omega,by omega,by omega,fun j u hj=>?_⟩
   ·rw [hlen];unfold sliced;rw [if_neg (by omega)];simp [WideShapes.add_plain]
   ·have e:l = l.take lo ++ ((l.take hi).drop lo ++ l.drop hi):=by
     have e1:l.take lo = (l.take hi).take lo:=by rw [List.take_take,Nat.min_eq_left h1]
     rw [← List.append_assoc,e1,List.take_append_drop,List.take_append_drop]
    have hlt:=(qM hj);have hl0:(E.flat (l.take lo)).length = lo * E.sz:=by rw [E.flat_length,List.length_take,Nat.min_eq_left (by omega)]
    have:=hx (lo * E.sz + j) u (by
     rw [e,E.flat_append,E.flat_append,List.getElem?_append_right (by omega),hl0,show lo * E.sz + j - lo * E.sz = j by omega,List.getElem?_append_left hlt];exact hj)
    rwa [← Nat.add_assoc] at this
theorem run_cut_h (w:World) (a:Option Addr) (m cap k:Nat) (hk:k<=cap):(Instr.slice 23 (.slice a m cap) none (some (.int .i64 (k:Int))) none).run Tryz.prog w = .ok (sliced a 0 k cap EO.sz) w:=by
 rw [run_slice_h (P:=Tryz.prog) w 23 a m cap Tryz.underlying23 .i64 (k:Int) (by omega) (by omega)];rfl
theorem run_cut_l (w:World) (a:Option Addr) (m cap k:Nat) (hk:k<=m):(Instr.slice 23 (.slice a m cap) (some (.int .i64 (k:Int))) none none).run Tryz.prog w = .ok (sliced a k m cap EO.sz) w:=by
 rw [run_slice_l (P:=Tryz.prog) w 23 a m cap Tryz.underlying23 .i64 (k:Int) (by omega) (by omega),show ((k:Int)).toNat = k by omega];rfl
theorem _root_.Go.Proofs.YtneojimodomohaaGreat.Row.slice3o {α:Type} {E:Enc α} {w:World} {B:Nat} {e:TypeId} {v:Value} {ls:List α} (h:Row E w B e v ls):∃ p n c,v = .slice p n c:=by
 obtain ⟨p,c,h⟩:=h.slice;exact ⟨p,_,c,h⟩
theorem _root_.Go.Proofs.YtneojimodomohaaGreat.At.capdo {α:Type} {E:Enc α} {S:Nat->Prop} {w:World} {a:Option Addr} {m cap:Nat} {l:List α} (h:At E S w (.slice a m cap) l) (h0:0 < m):m<=cap/\cap<=maxLen:=by
 rcases h with ⟨ao,c,hv,rfl⟩ | ⟨b',off',c',hv,hS,hb,hp,hc,hm,hx⟩
 ·simp only [Value.slice.injEq] at hv;omega
 ·simp only [Value.slice.injEq] at hv;omega
abbrev Four (X:Nat) (x:Opn) (w:World):Prop:=w.cell? ⟨X,0,none⟩ = some (.int .i64 x.1)/\w.cell? ⟨X,1,none⟩ = some (.int .i64 x.2.1)/\w.cell? ⟨X,2,none⟩ = some (.int .i64 x.2.2.1)/\w.cell? ⟨X,3,none⟩ = some (.int .i64 x.2.2.2)
theorem four_step {X:Nat} {x:Opn} {w w':World} (h:Four X x w) (hb:Bw w w'):Four X x w':=⟨cell_step h.1 hb,cell_step h.2.1 hb,cell_step h.2.2.1 hb,cell_step h.2.2.2 hb⟩
theorem four_alloc {X:Nat} {x:Opn} {w:World} (h:Four X x w) (o:Obj):Four X x (w.alloc o):=four_step h (qG _ _)
theorem four_drew {X:Nat} {x:Opn} {w:World} (h:Four X x w):Four X x w.drew:=h
theorem concat_open (w1:World) (v1 v3:Value) (l1 l3:List Opn) (x:Opn) (h1:AtW EO w1 v1 l1) (h3:AtW EO w1 v3 l3) (hl:l1.length + 1 + l3.length<=2199023255552) :
  Calls Tryz.prog 166 #[.slice (some ⟨w1.heap.size + 1 + 1,0,none⟩) 3 3] (((w1.alloc (BO x)).alloc (BO x)).alloc (.cells #[v1,.slice (some ⟨w1.heap.size + 1,0,none⟩) 1 1,v3] 23)).drew
   fun e w'=>∃ u,e = .returned u/\Row EO w' (w1.heap.size + 1 + 1 + 1) 77 u (l1 ++ [x] ++ l3)/\Below (((w1.alloc (BO x)).alloc (BO x)).alloc (.cells #[v1,.slice (some ⟨w1.heap.size + 1,0,none⟩) 1 1,v3] 23)).drew.heap.size (((w1.alloc (BO x)).alloc (BO x)).alloc (.cells #[v1,.slice (some ⟨w1.heap.size + 1,0,none⟩) 1 1,v3] 23)).drew w':=by
 have hh:=heap_alloc_new ((w1.alloc (BO x)).alloc (BO x)) (.cells #[v1,.slice (some ⟨w1.heap.size + 1,0,none⟩) 1 1,v3] 23);have z2:((w1.alloc (BO x)).alloc (BO x)).heap.size = w1.heap.size + 1 + 1:=by simp
 rw [z2] at hh;have hb1:Bw w1 (((w1.alloc (BO x)).alloc (BO x)).alloc (.cells #[v1,.slice (some ⟨w1.heap.size + 1,0,none⟩) 1 1,v3] 23)):=((qG _ _).alloc (by simp) _).alloc (by simp;omega) _;have hx:=(at_two w1 x).up ((Below.refl _ _).alloc (Nat.le_refl _) (.cells #[v1,.slice (some ⟨w1.heap.size + 1,0,none⟩) 1 1,v3] 23));have z3:(((w1.alloc (BO x)).alloc (BO x)).alloc (.cells #[v1,.slice (some ⟨w1.heap.size + 1,0,none⟩) 1 1,v3] 23)).heap.size = w1.heap.size + 1 + 1 + 1:=by simp
 have k1:=h1.up hb1;have k3:=h3.up hb1;generalize ((w1.alloc (BO x)).alloc (BO x)).alloc (.cells #[v1,.slice (some ⟨w1.heap.size + 1,0,none⟩) 1 1,v3] 23) = w3 at *;have hc:=concat_three (w1.heap.size + 1 + 1) v1 _ v3 l1 [x] l3 w3.drew (by show _ < w3.heap.size;omega) (by simp only [World.cell?];rw [show w3.drew.heap[w1.heap.size + 1 + 1]? = w3.heap[w1.heap.size + 1 + 1]? from rfl,hh];rfl) (by simp only [World.cell?];rw [show w3.drew.heap[w1.heap.size + 1 + 1]? = w3.heap[w1.heap.size + 1 + 1]? from rfl,hh];rfl) (by simp only [World.cell?];rw [show w3.drew.heap[w1.heap.size + 1 + 1]? = w3.heap[w1.heap.size + 1 + 1]? from rfl,hh];rfl) k1 hx k3 (by simpa using hl);refine hc.mono ?_;rintro e w5 ⟨u,rfl,hr,hb⟩;refine ⟨u,rfl,?_,hb⟩;rw [← z3];exact hr
theorem open_any (v:Value) (l:List Opn) (c no gen:Int) (w:World) (hv:AtW EO w v l) :
  Calls Tryz.prog 111 #[v,.int .i64 c,VH no gen] w fun e w'=>∃ p n q,e = .returned (.tuple #[.slice p n q,.int .i64 (Op.openFd l c no gen),.int .i64 (Op.openErr l c no gen)])/\At EO (fun b=>w.heap.size<=b) w' (.slice p n q) (Op.opened l c no gen)/\Bw w w':=by
 have hv0:=hv;obtain ⟨ao,cap,rfl,hm,-⟩:=hv0.open;clear hv0;unfold maxLen at hm;obtain ⟨m,hlm⟩:=qE l.length;rw [hlm] at hm hv ⊢;have HLM:Hid (l.length = m):=hlm;clear hlm;obtain ⟨W,hW⟩:=qF (w.alloc (BH no gen));have HB0:Hid _:=qB hW;have HA0:Hid (W.heap[w.heap.size]? = some (BH no gen)):=by show W.heap[w.heap.size]? = some (BH no gen);rw [hW];exact heap_alloc_new w (BH no gen)
 have HV:Hid (AtW EO W (.slice ao m cap) l):=hv.up HB0.out;have HV0:Hid (AtW EO w (.slice ao m cap) l):=hv;clear hv;rcases Op.open_or l c no gen with ⟨he,ha,hr,hc,ho,hl⟩ | ⟨he,ha⟩ | ⟨he,ha,ho⟩ | ⟨he,ha,hr,ho,hl⟩
 ·have HP:Hid (Op.opened l c no gen = l.take (Op.least 0 l) ++ [((Op.least 0 l:Int),c,no,gen)] ++ l.drop (Op.least 0 l)):=if_pos he;have HF:Hid (Op.openFd l c no gen = (Op.least 0 l:Nat)):=if_pos he;have hfm:=Op.least_in l;obtain ⟨f,hf⟩:=qE (Op.least 0 l);have HLF:Hid (Op.least 0 l = f):=hf;rw [hf] at HP HF hfm;rw [he,HF.out];have HA:Hid (Op.ask l c = 0):=ha;have HO:Hid (Ho no gen):=ho;rw [HLM.out] at hfm hl;have hcap:f<=cap:=by
   by_cases h0:0 < m
   ·have:=HV0.out.capdo h0;omega
   ·omega
  have hm16:((m:Int) == 16) = false:=by rw [beq_eq_false_iff_ne];omega
  obtain ⟨q1,c1,hs1⟩:∃ q cc,sliced ao 0 f cap EO.sz = .slice q f cc:=⟨_,_,rfl⟩;obtain ⟨q2,n2,c2,hs2⟩:∃ q n cc,sliced ao f m cap EO.sz = .slice q n cc:=⟨_,_,_,rfl⟩;have hsl1:∀ w',(Instr.slice 23 (.slice ao m cap) none (some (.int .i64 (f:Int))) none).run Tryz.prog w' = .ok (.slice q1 f c1) w':=fun w'=>by rw [run_cut_h w' _ m cap f hcap,hs1]
  have hsl2:∀ w',(Instr.slice 23 (.slice ao m cap) (some (.int .i64 (f:Int))) none none).run Tryz.prog w' = .ok (.slice q2 n2 c2) w':=fun w'=>by rw [run_cut_l w' _ m cap f hfm,hs2]
  have HCUT:Hid (∀ w',AtW EO w' (.slice ao m cap) l->AtW EO w' (.slice q1 f c1) (l.take f)/\AtW EO w' (.slice q2 n2 c2) (l.drop f)):=fun w' h=>by
   have g1:=h.cuto (lo:=0) (hi:=f) (Nat.zero_le _) hfm;have g2:=h.cuto (lo:=f) (hi:=m) hfm (Nat.le_refl _);rw [hs1] at g1;rw [hs2,← HLM.out,List.take_length] at g2;exact ⟨by simpa using g1,g2⟩
  have HKL:Hid ((l.take f).length + 1 + (l.drop f).length<=2199023255552):=by
   show (l.take f).length + 1 + (l.drop f).length<=2199023255552;have:=HLM.out;simp only [List.length_take,List.length_drop];omega
  clear he ha hr hc ho hf hs1 hs2 hm;go_enter Tryz.func111,Tryz.ntmps111;go_wp2_with fail;rw [← hW];refine (refuse_any _ l c _ HV.out).mono ?_;rintro e w1 ⟨rfl,hb⟩;rw [HA.out];have HB1:Hid (Bw w w1):=HB0.out.trans (hb.mono HB0.out.size);have HA1:Hid (w1.heap[w.heap.size]? = some (BH no gen)):=(hb.block _ (qL HA0.out)).trans HA0.out;obtain ⟨z0,z1⟩:=hand_of HA1.out;clear hb hW;go_wp2_with fail;refine (rof_yes _ _ _ HO.out).mono ?_;rintro e w' ⟨rfl,rfl⟩;have HB2:Hid (Bw w (w1.alloc (BH no gen))):=HB1.out.alloc HB1.out.size _;have HA2:Hid ((w1.alloc (BH no gen)).heap[w.heap.size]? = some (BH no gen)):=(Below.heap_alloc _ _ _ (qL HA1.out)).trans HA1.out;clear z0 z1;generalize w1.alloc (BH no gen) = w2 at *;go_wp2_with fail;refine (leastFree_any _ l _ (HV0.out.up HB2.out)).mono ?_;rintro e w3 ⟨rfl,hb⟩;rw [HLF.out];have HB3:Hid (Bw w w3):=HB2.out.trans (hb.mono HB2.out.size);obtain ⟨z0,z1⟩:=hand_of ((hb.block _ (qL HA2.out)).trans HA2.out);have HV3:Hid (AtW EO w3 (.slice ao m cap) l):=HV0.out.up HB3.out;have hs3:=HB3.out.size;clear hb;have HSS:Hid (Four w3.heap.size ((f:Int),c,no,gen) (w3.alloc (BO ((f:Int),c,no,gen)))):=(opn_of (heap_alloc_new w3 (BO ((f:Int),c,no,gen)))).1;go_wp2_with fail
  go_region_held3 (fun w'=>w'.cell? ⟨w3.heap.size,0,none⟩ = some (.int .i64 (f:Int))/\w'.cell? ⟨w3.heap.size,1,none⟩ = some (.int .i64 c)/\w'.cell? ⟨w3.heap.size,2,none⟩ = some (.int .i64 no)/\w'.cell? ⟨w3.heap.size,3,none⟩ = some (.int .i64 gen)) (first | exact HSS.out | exact four_drew HSS.out | exact four_drew (four_alloc HSS.out _) | exact four_drew (four_alloc (four_alloc HSS.out _) _) | exact four_alloc HSS.out _ | exact four_alloc (four_alloc HSS.out _) _ | exact four_step (four_drew (four_alloc (four_alloc HSS.out _) _)) (by assumption)) (first
   | (go_at_call 166;refine (concat_open w3 _ _ (l.take f) (l.drop f) ((f:Int),c,no,gen) (HCUT.out _ HV3.out).1 (HCUT.out _ HV3.out).2 HKL.out).mono ?_;rintro e w5 ⟨u,rfl,hr,hb5⟩;obtain ⟨pu,nu,cu,rfl⟩:=hr.slice3o))
  have HEND:Hid (At EO (fun b=>w.heap.size<=b) w5 (.slice pu nu cu) (Op.opened l c no gen)/\Bw w w5):=by
   have h:=hr.at.imp (T:=fun b=>w.heap.size<=b) (fun b hb _=>by omega);rw [← HP.out] at h;have h3:Bw w (((w3.alloc (BO ((f:Int),c,no,gen))).alloc (BO ((f:Int),c,no,gen))).alloc (.cells #[.slice q1 f c1,.slice (some ⟨w3.heap.size + 1,0,none⟩) 1 1,.slice q2 n2 c2] 23)):=((HB3.out.alloc (by omega) _).alloc (by simp;omega) _).alloc (by simp;omega) _;exact ⟨h,h3.trans ((undrew hb5).mono h3.size)⟩
  clear hr hb5 z0 z1;go_wp2
  go_ret3
  exact ⟨_,_,_,rfl,HEND.out.1,HEND.out.2⟩
 ·have HP:Hid (Op.opened l c no gen = []):=if_neg (by rw [he];exact ha);have HF:Hid (Op.openFd l c no gen = 0):=if_neg (by rw [he];exact ha);obtain ⟨a,haa⟩:=qE (Op.ask l c);have HA:Hid (Op.ask l c = a):=haa;rw [haa] at he ha;rw [he,HF.out];have hne:(a == 0) = false:=beq_eq_false_iff_ne.2 ha;clear he ha haa;go_enter Tryz.func111,Tryz.ntmps111;go_wp2_with fail;rw [← hW];refine (refuse_any _ l c _ HV.out).mono ?_;rintro e w1 ⟨rfl,hb⟩;rw [HA.out];have HB1:Hid (Bw w w1):=HB0.out.trans (hb.mono HB0.out.size);clear hb hW;go_wp2
  go_ret3
  exact ⟨_,_,_,rfl,by rw [HP.out];exact At.nil,HB1.out⟩
 ·have HP:Hid (Op.opened l c no gen = []):=if_neg (by rw [he];decide);have HF:Hid (Op.openFd l c no gen = 0):=if_neg (by rw [he];decide);have HA:Hid (Op.ask l c = 0):=ha;have HO:Hid (¬ Ho no gen):=ho;rw [he,HF.out];clear he ha ho;go_enter Tryz.func111,Tryz.ntmps111;go_wp2_with fail;rw [← hW];refine (refuse_any _ l c _ HV.out).mono ?_;rintro e w1 ⟨rfl,hb⟩;rw [HA.out];have HB1:Hid (Bw w w1):=HB0.out.trans (hb.mono HB0.out.size);obtain ⟨z0,z1⟩:=hand_of ((hb.block _ (qL HA0.out)).trans HA0.out);clear hb hW;go_wp2_with fail;refine (rof_no _ _ _ HO.out).mono ?_;rintro e w' ⟨rfl,rfl⟩;have HB2:Hid (Bw w (w1.alloc (BH no gen))):=HB1.out.alloc HB1.out.size _;go_wp2
  go_ret3
  exact ⟨_,_,_,rfl,by rw [HP.out];exact At.nil,HB2.out⟩
 ·have HP:Hid (Op.opened l c no gen = []):=if_neg (by rw [he];decide);have HF:Hid (Op.openFd l c no gen = 0):=if_neg (by rw [he];decide);have HA:Hid (Op.ask l c = 0):=ha;have HO:Hid (Ho no gen):=ho;rw [he,HF.out];rw [HLM.out] at hl;subst hl;clear he ha ho hr;go_enter Tryz.func111,Tryz.ntmps111;go_wp2_with fail;rw [← hW];refine (refuse_any _ l c _ HV.out).mono ?_;rintro e w1 ⟨rfl,hb⟩;rw [HA.out];have HB1:Hid (Bw w w1):=HB0.out.trans (hb.mono HB0.out.size);obtain ⟨z0,z1⟩:=hand_of ((hb.block _ (qL HA0.out)).trans HA0.out);clear hb hW;go_wp2_with fail;refine (rof_yes _ _ _ HO.out).mono ?_;rintro e w' ⟨rfl,rfl⟩;have HB2:Hid (Bw w (w1.alloc (BH no gen))):=HB1.out.alloc HB1.out.size _;go_wp2
  go_ret3
  exact ⟨_,_,_,rfl,by rw [HP.out];exact At.nil,HB2.out⟩
end Go.Proofs.YtneojimodomohaaGreat.Os
namespace Go.Proofs.YtneojimodomohaaGreat
open Go.ChangeShapes Go.WideShapes Go.ChangeAt Go.RowKit Go.Deep It
namespace Nf
def when (E:Int) (P:Prop):Prop:=E = 0->P
noncomputable def opE (L:List Ino) (O:List Os.Opn) (cl:Int) (c:Cal):Int:=if fndE L c.no c.gen 1 405 = 0 then Os.Op.openErr O cl c.no c.gen else fndE L c.no c.gen 1 405
noncomputable def opN (L:List Ino) (O:List Os.Opn) (cl:Int) (c:Cal):Int:=if opE L O cl c = 0 then Os.Op.openFd O cl c.no c.gen else 0
end Nf
theorem nopen_any {S:Nat->Prop} (vi vo vs:Value) (dn cl:Int) (c:Cal) (L:List Rw) (B:Nat) (w:World) (hB:w.heap[B]? = some (BTk vi vo vs dn cl c)) (hv:TabAt S w vi L) (O:List Os.Opn) (ho:AtW Os.EO w vo O) :
  Calls Tryz.prog 59 #[.pointer (some ⟨B,0,none⟩)] w fun e w'=>∃ u,e = .returned (VRp (Nf.opE (pl L) O cl c) 0 0 0 0 0 0 ⟨#[]⟩ (.slice none 0 0) (Nf.opN (pl L) O cl c))/\w'.heap[B]? = some (BTk vi (Nf.sel (Nf.opE (pl L) O cl c) u vo) vs dn cl c)/\Nf.when (Nf.opE (pl L) O cl c) (At Os.EO (fun b=>w.heap.size < b) w' u (Os.Op.opened O cl c.no c.gen))/\w.grownBy w' (some B):=by
 have hBl:=(qL hB);obtain ⟨W,hW⟩:=qF (w.alloc BR0);have HB0:Hid _:=qB hW;have HA0:Hid _:=qC hW;have HT0:Hid (W.heap[B]? = some (BTk vi vo vs dn cl c)):=(HB0.out.block _ hBl).trans hB;have HV:Hid (TabAt S W vi L):=hv.up HB0.out;have hwW:w.heap.size < W.heap.size:=(qL HA0.out);have hBW:B < W.heap.size:=(qL HT0.out);obtain ⟨E,hE⟩:=qE (Nf.opE (pl L) O cl c);obtain ⟨D,hD⟩:=qE (Nf.opN (pl L) O cl c);rw [hE,hD];unfold Nf.opN at hD;rw [hE] at hD;unfold Nf.opE at hE;have HO:Hid (AtW Os.EO W vo O):=ho.up HB0.out;obtain ⟨oo,oc,hso,-,-⟩:=ho.open;obtain ⟨om,hom⟩:=qE O.length;rw [hom] at hso;subst hso;obtain ⟨fe,hfe⟩:=qE (Nf.fndE (pl L) c.no c.gen 1 405);have HF:Hid (Nf.fndE (pl L) c.no c.gen 1 405 = fe):=hfe;rw [hfe] at hE;clear hv hB hfe ho hom;go_enter Tryz.func59,Tryz.ntmps59;go_wp2_with fail;rw [← hW];clear hW;refine (nfile_any vi (.slice oo om oc) vs dn cl c L B W HT0.out HV.out).mono ?_;rintro e w1 ⟨x,rfl,hxi,hxg,hb1⟩;rw [HF.out] at hxi ⊢;obtain ⟨Y,hY⟩:=qF (w1.alloc (BIx x));have bw1:Bw w1 Y:=by rw [hY];exact qG _ _
 have hbY:Bw W Y:=hb1.trans (bw1.mono hb1.size);have HBY:=qJ HB0 hbY;have HZ:=qK hbY HA0;have HTY:=qK hbY HT0;have HXA:Hid _:=qC hY;have HOY:Hid (AtW Os.EO Y (.slice oo om oc) O):=HO.out.up hbY;have HXI:Hid _:=hxi;have hzl:=(qL HZ.out);have hxl:=(qL HXA.out);have hne:w.heap.size≠w1.heap.size:=by have:=hb1.size;omega
 have hzl1:w.heap.size < w1.heap.size:=by have:=hb1.size;omega
 clear hb1 bw1 hbY hxg hxi HA0 HT0 HV
 by_cases h0:fe = 0
 ·rw [if_pos h0] at hE;subst h0;have HC:Hid (∀ V,Bw Y V->Calls Tryz.prog 111 #[.slice oo om oc,.int .i64 cl,.agg #[.int .i64 c.no,.int .i64 c.gen]] V fun e w'=>∃ p n q,e = .returned (.tuple #[.slice p n q,.int .i64 (Os.Op.openFd O cl c.no c.gen),.int .i64 E])/\At Os.EO (fun b=>w.heap.size < b) w' (.slice p n q) (Os.Op.opened O cl c.no c.gen)/\Bw V w'):=fun V h=>by
   refine (Os.open_any (.slice oo om oc) O cl c.no c.gen V (HOY.out.up h)).mono ?_;rintro e w' ⟨p,n,q,h1,h2,h3⟩;rw [hE] at h1;exact ⟨p,n,q,h1,h2.imp (fun b hb _=>by have h4:=h.size;omega),h3⟩
  have HSG:Hid (∀ V:World,Bw Y V->V.cell? ⟨B,1,none⟩ = some (.slice oo om oc)/\V.cell? ⟨B,4,none⟩ = some (.int .i64 cl)/\V.cell? ⟨B,6,none⟩ = some (.int .i64 c.no)/\V.cell? ⟨B,7,none⟩ = some (.int .i64 c.gen)):=fun V h=>by
   obtain ⟨-,t1,-,-,t4,-,t6,t7,-,-,-,-,-,-,-⟩:=tk_of HTY.out;exact ⟨cell_step t1 h,cell_step t4 h,cell_step t6 h,cell_step t7 h⟩
  clear HXI hE;obtain ⟨fd,hfd⟩:=qE (Os.Op.openFd O cl c.no c.gen);rw [hfd] at HC hD;clear hfd;go_wp2_with fail;rw [← hY];clear hY
  go_region_held3 (fun V=>V.cell? ⟨B,1,none⟩ = some (.slice oo om oc)/\V.cell? ⟨B,4,none⟩ = some (.int .i64 cl)/\V.cell? ⟨B,6,none⟩ = some (.int .i64 c.no)/\V.cell? ⟨B,7,none⟩ = some (.int .i64 c.gen)) (first | (refine HSG.out _ ?_;(repeat (first | with_reducible assumption | with_reducible exact Below.refl _ _ | with_reducible refine bel_drew ?_));done)) (first
   | (go_at_call 111;refine (HC.out _ (by first | exact Below.refl _ _ | exact bel_drew (Below.refl _ _))).mono ?_;rintro e w7 ⟨p,m,q,rfl,hd7,hb7⟩;have hb77:Bw Y w7:=(by first | exact hb7 | exact undrew hb7);have HD7:Hid (At Os.EO (fun b=>w.heap.size < b) w7 (.slice p m q) (Os.Op.opened O cl c.no c.gen)):=hd7;clear hb7 hd7))
  all_goals
   have HB7:=qJ HBY hb77;have HZ7:Hid _:=(hb77.block _ hzl).trans HZ.out;have HT7:=qK hb77 HTY;have hzl7:=(qL HZ7.out);have hBl7:=(qL HT7.out);have hBne:B≠w.heap.size:=by omega
   clear hb77 HC HSG
   by_cases hE0:E = 0
   ·subst hE0;rw [if_pos rfl] at hD;subst hD;obtain ⟨-,t1,-,-,-,-,-,-,-,-,-,-,-,-,-⟩:=tk_of HT7.out;have tf:=tk_fr HT7.out 1;obtain ⟨g0,g1,g2,g3,g4,g5,g6,g7,g8,g9⟩:=rp_of HZ7.out;have gg:=fr_at HZ7.out;go_wp2
    (try simp only [Exit.inBlock,Exit.then])
    refine bodyPost_ret (v:=VRp 0 0 0 0 0 0 0 ⟨#[]⟩ (.slice none 0 0) fd) ?_ rfl ⟨.slice p m q,rfl,?_,fun _=>?_,?_⟩
    ·rw [results_cell1 rfl]
     go_simp
    ·repeat (with_reducible refine (Below.heap_setCell _ _ _ _ (show B≠w.heap.size from hBne)).trans ?_)
     exact set_at HT7.out 1 (.slice p m q)
    ·repeat (with_reducible refine At.setCell ?_ (by show ¬ w.heap.size < w.heap.size;omega) _)
     exact HD7.out.setCell (by show ¬ w.heap.size < B;omega) _
    ·repeat (first | refine gr_set ?_ (.inr rfl) _ | refine gr_set ?_ (.inl (Nat.le_refl _)) _)
     exact grown_of_below HB7.out _
   ·rw [if_neg hE0] at hD;subst hD;have hz:(E != 0) = true:=by simpa using hE0
    have HE:Hid _:=hE0;clear hE0;go_wp2_with fail;refine (wrong_any E _).mono ?_;rintro e w8 ⟨rfl,hb8⟩;have HB8:=qJ HB7 hb8;have HZ8:Hid _:=(hb8.block _ hzl7).trans HZ7.out;have HT8:Hid _:=(hb8.block _ hBl7).trans HT7.out;obtain ⟨g0,g1,g2,g3,g4,g5,g6,g7,g8,g9⟩:=rp_of HZ8.out;have gg:=fr_at HZ8.out;clear hb8;go_wp2
    (try simp only [Exit.inBlock,Exit.then])
    refine bodyPost_ret (v:=VRp E 0 0 0 0 0 0 ⟨#[]⟩ (.slice none 0 0) 0) ?_ rfl ⟨.slice none 0 0,rfl,?_,fun h=>absurd h HE.out,?_⟩
    ·rw [results_cell1 rfl]
     go_simp
    ·repeat (with_reducible refine (Below.heap_setCell _ _ _ _ (show B≠w.heap.size from hBne)).trans ?_)
     rw [show Nf.sel E (.slice none 0 0) (.slice oo om oc) = .slice oo om oc from if_neg HE.out];exact HT8.out
    ·repeat (with_reducible refine gr_set ?_ (.inl (by simp;done)) _)
     exact grown_of_below HB8.out _
 ·rw [if_neg h0] at hE;subst hE;rw [if_neg h0] at hD;subst hD;have HE:Hid _:=h0;have hBne:B≠w.heap.size:=by omega
  have hBlY:=(qL HTY.out);have hz:(fe != 0) = true:=by simpa using h0
  clear HXI h0;go_wp2_with fail;rw [← hY];clear hY;refine (wrong_any fe _).mono ?_;rintro e w7 ⟨rfl,hb7⟩;have HB7:=qJ HBY hb7;have HZ7:Hid _:=(hb7.block _ hzl).trans HZ.out;have HT7:Hid _:=(hb7.block _ hBlY).trans HTY.out;obtain ⟨g0,g1,g2,g3,g4,g5,g6,g7,g8,g9⟩:=rp_of HZ7.out;have gg:=fr_at HZ7.out;clear hb7;go_wp2
  (try simp only [Exit.inBlock,Exit.then])
  refine bodyPost_ret (v:=VRp fe 0 0 0 0 0 0 ⟨#[]⟩ (.slice none 0 0) 0) ?_ rfl ⟨.slice none 0 0,rfl,?_,fun h=>absurd h HE.out,?_⟩
  ·rw [results_cell1 rfl]
   go_simp
  ·repeat (with_reducible refine (Below.heap_setCell _ _ _ _ (show B≠w.heap.size from hBne)).trans ?_)
   rw [show Nf.sel fe (.slice none 0 0) (.slice oo om oc) = .slice oo om oc from if_neg HE.out];exact HT7.out
  ·repeat (with_reducible refine gr_set ?_ (.inl (by simp;done)) _)
   exact grown_of_below HB7.out _
namespace Nf
noncomputable def reE (L:List Ino) (O:List Os.Opn) (h:Int × Int):Int:=if needB L O h then 0 else dropErr L h.1 h.2
noncomputable def reT (L:List Ino) (O:List Os.Opn) (h:Int × Int):List Ino:=if needB L O h then L else if dropErr L h.1 h.2 = 0 then dropTab L h.1 h.2 else L
/-- The table in the task's box: the old one, or a new one. -/
def Now (n:Nat) (w':World) (v u:Value) (T T':List Ino):Prop:=(u = v/\T' = T)∨∃ L',TabAt (fun b=>n<=b) w' u L'/\pl L' = T'
end Nf
theorem tab_grown {S:Nat->Prop} {w w':World} {v:Value} {L:List Rw} {r:Nat} (h:TabAt S w v L) (hg:w.grownBy w' (some r)) (hr:¬ S r):TabAt S w' v L:=⟨h.1.grown hg (fun g e=>by cases e;exact hr),fun x hx=>(h.2 x hx).keep hg.size fun b hb hl=>⟨hg.block b hl (fun e=>by cases e;exact hr hb),hb⟩⟩
theorem nrelease_any {S : Nat → Prop} (vi vo : Value) (sp : Option Addr) (sn sc : Nat) (dn cl : Int) (c : Cal) (L : List Rw) (B : Nat) (no gen : Int) (w : World) (hB : w.heap[B]? = some (BTk vi vo (.slice sp sn sc) dn cl c)) (hv : TabAt S w vi L) (O : List Os.Opn) (ho : AtW Os.EO w vo O) (hn : names (pl L) no gen = true) :
    Calls Tryz.prog 106 #[.pointer (some ⟨B,0,none⟩),.agg #[.int .i64 no,.int .i64 gen]] w fun e w'=>∃ u,e = .returned (VBad (Nf.reE (pl L) O (no,gen)))/\w'.heap[B]? = some (BTk u vo (.slice sp sn sc) dn cl c)/\Nf.Now (w.heap.size + 1) w' vi u (pl L) (Nf.reT (pl L) O (no,gen))/\w.grownBy w' (some B):=by
  have hBl:=(Array.getElem?_eq_some_iff.1 hB).1;obtain ⟨W,hW⟩:=qF ((w.alloc (BH no gen)).alloc BR0);have HB0:Hid (Bw w W):=by show Bw w W;rw [hW];exact (qG _ _).alloc (by simp) _
  have HA0:Hid (W.heap[w.heap.size]? = some (BH no gen)):=by show W.heap[w.heap.size]? = _;rw [hW];exact (Below.heap_alloc _ _ _ (by simp)).trans (heap_alloc_new _ _)
  have HR0:Hid (W.heap[w.heap.size + 1]? = some BR0):=by show W.heap[w.heap.size + 1]? = _;rw [hW];have h:=heap_alloc_new (w.alloc (BH no gen)) BR0;simpa using h
  have HT0:Hid (W.heap[B]? = some (BTk vi vo (.slice sp sn sc) dn cl c)):=(HB0.out.block _ hBl).trans hB;have HV:Hid (TabAt S W vi L):=hv.up HB0.out;have HO:Hid (AtW Os.EO W vo O):=ho.up HB0.out;have hwW:w.heap.size < W.heap.size:=(Array.getElem?_eq_some_iff.1 HA0.out).1;have hrW:w.heap.size + 1 < W.heap.size:=(Array.getElem?_eq_some_iff.1 HR0.out).1;have hBW:B < W.heap.size:=(Array.getElem?_eq_some_iff.1 HT0.out).1;obtain ⟨oo,oc,hso,-,-⟩:=ho.open;obtain ⟨om,hom⟩:=qE O.length;rw [hom] at hso;subst hso;obtain ⟨ao,cap,hsi,-,-⟩:=hv.open;obtain ⟨n,hn'⟩:=qE L.length;rw [hn'] at hsi;subst hsi;obtain ⟨nb,hnb⟩:=qE (Nf.needB (pl L) O (no,gen));have HN:Hid (∀ V,Bw W V->Calls Tryz.prog 79 #[VSt (.slice ao n cap) (.slice oo om oc) (.slice sp sn sc) dn,.agg #[.int .i64 no,.int .i64 gen]] V fun e w'=>e = .returned (.bool nb)/\Bw V w'):=fun V h=>by
    rw [← hnb];exact needed_any (.slice ao n cap) (.slice oo om oc) sp sn sc dn L O no gen V (HV.out.up h) (HO.out.up h) hn
  obtain ⟨E,hE⟩:=qE (Nf.reE (pl L) O (no,gen));obtain ⟨T,hT⟩:=qE (Nf.reT (pl L) O (no,gen));rw [hE,hT];unfold Nf.reE at hE;unfold Nf.reT at hT;rw [hnb] at hE hT;have HSG:Hid (∀ V:World,Bw W V->V.cell? ⟨B,0,none⟩ = some (.slice ao n cap)/\V.cell? ⟨B,1,none⟩ = some (.slice oo om oc)/\V.cell? ⟨B,2,none⟩ = some (.slice sp sn sc)/\V.cell? ⟨B,3,none⟩ = some (.int .i64 dn)/\V.cell? ⟨w.heap.size,0,none⟩ = some (.int .i64 no)/\V.cell? ⟨w.heap.size,1,none⟩ = some (.int .i64 gen)):=fun V h=>by
    obtain ⟨t0,t1,t2,t3,-,-,-,-,-,-,-,-,-,-,-⟩:=tk_of HT0.out;obtain ⟨⟨a0,a1⟩,-⟩:=two_of HA0.out;exact ⟨cell_step t0 h,cell_step t1 h,cell_step t2 h,cell_step t3 h,cell_step a0 h,cell_step a1 h⟩
  have HC:Hid (∀ V,Bw W V->Calls Tryz.prog 158 #[.slice ao n cap,.agg #[.int .i64 no,.int .i64 gen]] V fun e w'=>∃ p m q L',e = .returned (.tuple #[.slice p m q,.int .i64 (dropErr (pl L) no gen)])/\(TabAt (fun b=>W.heap.size<=b) w' (.slice p m q) L'/\pl L' = dropTab (pl L) no gen)/\Bw V w'):=fun V h=>by
    refine (drop_any (.slice ao n cap) L no gen V (HV.out.up h)).mono ?_;rintro e w' ⟨u,L',h1,h2,h3,h4⟩;obtain ⟨p4,z4,hu,-,-⟩:=h2.open;subst hu;exact ⟨p4,L'.length,z4,L',h1,⟨h2.more h.size,h3⟩,h4⟩
  obtain ⟨de,hde⟩:=qE (dropErr (pl L) no gen);obtain ⟨dt,hdt⟩:=qE (dropTab (pl L) no gen);simp only [hde,hdt] at hE hT HC;obtain ⟨T0,hT0⟩:=qE (pl L);rw [hT0] at hT ⊢;clear hv hB ho hn hom hn' hnb hde hdt hT0 HV HO;go_enter Tryz.func106,Tryz.ntmps106;go_wp2_with fail;rw [← hW];clear hW;obtain ⟨t0,t1,t2,t3,a0,a1⟩:=HSG.out W (Below.refl _ _)
  go_region_with (go_at_call 79;refine (HN.out _ (by first | exact Below.refl _ _ | exact bel_drew (Below.refl _ _))).mono ?_;rintro e w5 ⟨rfl,hb5⟩;have hb55:Bw W w5:=(by first | exact hb5 | exact undrew hb5);clear hb5)
  all_goals
    have HB5:Hid (Bw w w5):=HB0.out.trans (hb55.mono HB0.out.size);have HR5:=qK hb55 HR0;have HT5:=qK hb55 HT0;have hBne:B≠w.heap.size + 1:=by omega
    have hrl:=(Array.getElem?_eq_some_iff.1 HR5.out).1;have hBl5:=(Array.getElem?_eq_some_iff.1 HT5.out).1;clear t0 t1 t2 t3 a0 a1;rcases nb with _ | _
    · rw [if_neg (by simp)] at hE hT
      subst hE;obtain ⟨t0,-,-,-,a0,a1⟩:=HSG.out w5 hb55;have HC5:Hid (∀ V,Bw w5 V->Calls Tryz.prog 158 #[.slice ao n cap,.agg #[.int .i64 no,.int .i64 gen]] V fun e w'=>∃ p m q L',e = .returned (.tuple #[.slice p m q,.int .i64 de])/\(TabAt (fun b=>W.heap.size<=b) w' (.slice p m q) L'/\pl L' = dt)/\Bw V w'):=fun V h=>HC.out V (hb55.trans (h.mono hb55.size))
      have hlow:w.heap.size + 1 < W.heap.size:=hrW;clear HN HC HSG hb55;go_wp2_with fail
      go_region_with (first
        | (go_at_call 158;refine (HC5.out _ (by first | exact Below.refl _ _ | exact bel_drew (Below.refl _ _))).mono ?_;rintro e w6 ⟨p,m,q,L',rfl,ht6,hb6⟩;have hb66:Bw w5 w6:=(by first | exact hb6 | exact undrew hb6);have HT6:=qK hb66 HT5;have HU6:Hid (TabAt (fun b=>W.heap.size<=b) w6 (.slice p m q) L'/\pl L' = dt):=ht6;have HB6:Hid (Bw w w6):=HB5.out.trans (hb66.mono HB5.out.size);have HR6:=qK hb66 HR5;clear hb6 ht6 hb66)
        | (go_at_call 103;refine (change_any (.slice ao n cap) (.slice oo om oc) (.slice sp sn sc) dn cl c B p m q de _ HT6.out).mono ?_;rintro e w7 ⟨rfl,hB7,hg7⟩;have hz7:w7.heap[w.heap.size + 1]? = some BR0:=(hg7.block _ (Array.getElem?_eq_some_iff.1 HR6.out).1 (by simp;omega)).trans HR6.out;obtain ⟨g0,g1,g2,g3,g4,g5,g6,g7,g8,g9⟩:=rp_of hz7;have gg:=fr_at hz7;have HB7:Hid (w7.heap[B]? = some (BTk (if de = 0 then .slice p m q else .slice ao n cap) (.slice oo om oc) (.slice sp sn sc) dn cl c)):=hB7;have HU7:Hid (TabAt (fun b=>W.heap.size<=b) w7 (.slice p m q) L'):=tab_grown HU6.out.1 hg7 (by show ¬ W.heap.size<=B;omega);have HG7:Hid (w.grownBy w7 (some B)):=grown_trans (grown_of_below HB6.out _) hg7;clear hB7 hg7 hz7))
      all_goals
        go_wp2
        (try simp only [Exit.inBlock,Exit.then])
        refine bodyPost_ret (v:=VBad de) ?_ rfl ⟨if de = 0 then .slice p m q else .slice ao n cap,rfl,?_,?_,?_⟩
        · rw [results_cell1 rfl]
          go_simp
        · repeat (with_reducible refine (Below.heap_setCell _ _ _ _ (show B ≠ w.heap.size + 1 from hBne)).trans ?_)
          exact HB7.out
        · by_cases hz : de = 0
          · rw [if_pos hz] at hT ⊢
            refine .inr ⟨L',?_,HU6.out.2.trans hT⟩;refine TabAt.imp ?_ (S:=fun b=>W.heap.size<=b) (fun b hb _=>by omega);exact setCells_tab (A:=w.heap.size + 1) (S:=fun b=>W.heap.size<=b) (by show ¬ W.heap.size<=w.heap.size + 1;omega) (cV de 0 0 0 0 0 0) 0 _ HU7.out
          · rw [if_neg hz] at hT ⊢
            exact .inl ⟨rfl,hT.symm⟩
        · repeat (with_reducible refine gr_set ?_ (.inl (show w.heap.size ≤ w.heap.size + 1 from Nat.le_succ _)) _)
          exact HG7.out
    · rw [if_pos rfl] at hE hT
      subst hE;subst hT;obtain ⟨g0,g1,g2,g3,g4,g5,g6,g7,g8,g9⟩:=rp_of HR5.out;have gg:=fr_at HR5.out;clear HN HC HSG hb55;go_wp2
      (try simp only [Exit.inBlock,Exit.then])
      refine bodyPost_ret (v:=VBad 0) ?_ rfl ⟨.slice ao n cap,rfl,?_,.inl ⟨rfl,rfl⟩,?_⟩
      · rw [results_cell1 rfl]
        go_simp
      · repeat (with_reducible refine (Below.heap_setCell _ _ _ _ (show B ≠ w.heap.size + 1 from hBne)).trans ?_)
        exact HT5.out
      · repeat (with_reducible refine gr_set ?_ (.inl (show w.heap.size ≤ w.heap.size + 1 from Nat.le_succ _)) _)
        exact grown_of_below HB5.out _
end Go.Proofs.YtneojimodomohaaGreat
namespace Go.Proofs.YtneojimodomohaaGreat.Os
open Go.ChangeShapes Go.WideShapes Go.ChangeAt Go.RowKit Go.Deep
theorem results_tct {fn:Func} {p t u:Tmp} {ty:TypeId} (h:fn.results = #[.tmp t,.cell p ty,.tmp u]) (tmps:Array Value) (P:Program) (w:World) :
  (results fn tmps).run P w = ((asAddr (tmps.getD p undef)).run P w).andThen fun a w₁=>((loadVar ty a).run P w₁).andThen fun v w₂=>.ok (.tuple #[tmps.getD t undef,v,tmps.getD u undef]) w₂:=by
 simp only [results,h];simp [Sem.run_bind,Result.andThen]
theorem _root_.Go.Proofs.YtneojimodomohaaGreat.At.setCello {α:Type} {E:Enc α} {S:Nat->Prop} {w:World} {v:Value} {l:List α} (h:At E S w v l) {p:Addr} (hp:¬ S p.block) (u:Value):At E S (w.setCell p u) v l :=
 h.keep (by simp [World.setCell]) fun b hS _=>⟨Below.heap_setCell _ _ _ _ (fun e=>hp (e ▸ hS)),hS⟩
theorem four_set {X:Nat} {x:Opn} {w:World} (h:Four X x w) {p:Addr} (hX:X≠p.block) (u:Value):Four X x (w.setCell p u) :=
 ⟨(cell_block (Below.heap_setCell _ _ _ _ hX)).trans h.1,(cell_block (Below.heap_setCell _ _ _ _ hX)).trans h.2.1,(cell_block (Below.heap_setCell _ _ _ _ hX)).trans h.2.2.1,(cell_block (Below.heap_setCell _ _ _ _ hX)).trans h.2.2.2⟩
theorem hand_froz {w:World} {A:Nat} {no gen:Int} (h:w.heap[A]? = some (BH no gen)):∀ j,w.frozen? ⟨A,j,none⟩ = false:=fun j=>by simp [World.frozen?,h]
namespace Op
theorem find_own (l:List Opn) (c fd:Int):l.find? (mine c fd) = (owned l c).find? (fun x=>x.1 == fd):=by
 unfold owned;rw [List.find?_filter]
 congr 1
 funext a
 rw [Bool.eq_iff_iff];simp [mine]
theorem owned_len (l:List Opn) (c:Int):(owned l c).length<=l.length:=List.length_filter_le _ _
end Op
theorem close_any (v:Value) (l:List Opn) (c fd:Int) (w:World) (hv:AtW EO w v l) :
  Calls Tryz.prog 112 #[v,.int .i64 c,.int .i64 fd] w fun e w'=>∃ p n q,e = .returned (.tuple #[.slice p n q,VH (Op.closeOf l c fd).1 (Op.closeOf l c fd).2,.int .i64 (Op.closeErr l c fd)])/\At EO (fun b=>w.heap.size<=b) w' (.slice p n q) (Op.closed l c fd)/\Bw w w':=by
 have hv0:=hv;obtain ⟨ao,cap,rfl,hm,-⟩:=hv0.open;clear hv0;unfold maxLen at hm;obtain ⟨m,hlm⟩:=qE l.length;rw [hlm] at hm hv ⊢;have HLM:Hid (l.length = m):=hlm;clear hlm;obtain ⟨W,hW⟩:=qF (w.alloc (BH 0 0));have HB0:Hid _:=qB hW;have HA0:Hid (W.heap[w.heap.size]? = some (BH 0 0)):=by show W.heap[w.heap.size]? = some (BH 0 0);rw [hW];exact heap_alloc_new w (BH 0 0)
 have HV:Hid (AtW EO W (.slice ao m cap) l):=hv.up HB0.out;clear hv
 by_cases ha:Op.ask l c = 0
 ·have HR:Hid (l.length<=16):=by
   rcases Op.ask_or l c with ⟨_,hr,_⟩ | ⟨h,_⟩ | ⟨h,_⟩
   ·exact Op.right_len hr
   ·omega
   ·omega
  have HA:Hid (Op.ask l c = 0):=ha;have HE:Hid (Op.closeErr l c fd = (match l.find? (Op.mine c fd) with | some _=>0 | none=>411)):=if_pos ha;have HO:Hid (Op.closeOf l c fd = (match l.find? (Op.mine c fd) with | some x=>x.2.2 | none=>(0,0))):=if_pos ha;have HC:Hid (Op.closed l c fd = (match l.find? (Op.mine c fd) with | some x=>Op.without l [x] | none=>[])):=if_pos ha;obtain ⟨ce,hce⟩:=qE (Op.closeErr l c fd);obtain ⟨o1,ho1⟩:=qE ((Op.closeOf l c fd).1);obtain ⟨o2,ho2⟩:=qE ((Op.closeOf l c fd).2);rw [hce,ho1,ho2];have HCE:Hid (Op.closeErr l c fd = ce/\(Op.closeOf l c fd).1 = o1/\(Op.closeOf l c fd).2 = o2):=⟨hce,ho1,ho2⟩;clear ha hce ho1 ho2;go_enter Tryz.func112,Tryz.ntmps112;go_wp2_with fail;rw [← hW];refine (refuse_any _ l c _ HV.out).mono ?_;rintro e w1 ⟨rfl,hb⟩;rw [HA.out];have HB1:Hid (Bw w w1):=HB0.out.trans (hb.mono HB0.out.size);have HA1:Hid (w1.heap[w.heap.size]? = some (BH 0 0)):=(hb.block _ (qL HA0.out)).trans HA0.out;have HV1:Hid (AtW EO w1 (.slice ao m cap) l):=HV.out.up hb;clear hb hW;go_wp2_with fail;refine (owned_any _ l c _ HV1.out (by have:=HR.out;omega)).mono ?_;rintro e w2 ⟨p2,n2,q2,rfl,h2,hb⟩;have HB2:Hid (Bw w w2):=HB1.out.trans (hb.mono HB1.out.size);have HA2:Hid (w2.heap[w.heap.size]? = some (BH 0 0)):=(hb.block _ (qL HA1.out)).trans HA1.out;have HV2:Hid (AtW EO w2 (.slice ao m cap) l):=HV1.out.up hb;obtain ⟨g,hg⟩:=qE (Op.owned l c);have HG:Hid (Op.owned l c = g):=hg;rw [hg] at h2;obtain ⟨ao2,cap2,hve,-,hx2⟩:=h2.wide.open;simp only [Value.slice.injEq] at hve;obtain ⟨rfl,rfl,rfl⟩:=hve;obtain ⟨n,hn⟩:=qE g.length;rw [hn];have HN:Hid (g.length = n):=hn;have HX:Hid (Over w2 p2 g):=hx2;have hn16:n<=16:=by have h1:=Op.owned_len l c;have:=HR.out;rw [hg,hn] at h1;omega
  have hws:w.heap.size < w2.heap.size:=(qL HA2.out);clear hb h2 hx2 hg hn;go_wp2;go_loopw [23] (fun i wr=>∃ (k:Nat),k<=n/\i = .int .i64 k/\Hid (l.find? (Op.mine c fd) = (g.drop k).find? (fun x=>x.1 == fd))/\Hid (Bw w2 wr)) (fun i _=>n - (intOf i).toNat)
  case atStart=>exact ⟨0,Nat.zero_le _,rfl,by rw [List.drop_zero,← HG.out];exact Op.find_own l c fd,Below.refl _ _⟩
  case round =>
   obtain ⟨k,hk,rfl,HP,HB⟩:=hrel;have HB3:Hid (Bw w wr):=HB2.out.trans (HB.out.mono HB2.out.size);have hsz:=HB.out.size;have HAR:Hid (wr.heap[w.heap.size]? = some (BH 0 0)):=(HB.out.block _ hws).trans HA2.out
   by_cases hlt:k < n
   ·obtain ⟨x,hxk⟩:∃ x,g[k]? = some x:=⟨_,List.getElem?_eq_getElem (by rw [HN.out];exact hlt)⟩;have HXK:Hid (g[k]? = some x):=hxk;obtain ⟨b,off,rfl,-,hB,hc⟩:=HX.out k x hxk;obtain ⟨c0,c1,c2,c3⟩:=opn_cells HB.out hB hc;clear hc hxk;have hlt':(k:Int) < (n:Int):=by omega
    by_cases gx:x.1 = fd
    ·have HF:Hid (l.find? (Op.mine c fd) = some x):=by
      have:=HP.out;rw [Op.drop_at HXK.out,List.find?_cons_of_pos (by simp [gx])] at this;exact this
     have HEE:Hid (ce = 0/\o1 = x.2.2.1/\o2 = x.2.2.2/\Op.closed l c fd = Op.without l [x]):=by
      have e1:=HE.out;have e2:=HO.out;have e3:=HC.out;have e4:=HCE.out;rw [HF.out] at e1 e2 e3;simp only at e1 e2 e3;rw [e1,e2] at e4;exact ⟨e4.1.symm,e4.2.1.symm,e4.2.2.symm,e3⟩
     have g1:(x.1 == fd) = true:=by simp [gx]
     have HSS:Hid (Four wr.heap.size x (wr.alloc (BO x))):=(opn_of (heap_alloc_new wr (BO x))).1;have HB4:Hid (Bw w ((wr.alloc (BO x)).alloc (BO x))):=(HB3.out.alloc (by omega) _).alloc (by simp;omega) _;have HV4:Hid (AtW EO ((wr.alloc (BO x)).alloc (BO x)) (.slice ao m cap) l):=((HV2.out.up HB.out).up (qG _ _)).up (qG _ _);have HX4:Hid (AtW EO ((wr.alloc (BO x)).alloc (BO x)) (.slice (some ⟨wr.heap.size + 1,0,none⟩) 1 1) [x]):=at_two wr x;have HZ:Hid (∀ w5,Below ((wr.alloc (BO x)).alloc (BO x)).drew.heap.size ((wr.alloc (BO x)).alloc (BO x)).drew w5->w5.heap[w.heap.size]? = some (BH 0 0)):=fun w5 hb=>by
      have hl:=(qL HAR.out);rw [hb.block _ (by show _ < Array.size _;simp;omega)];exact (Below.heap_alloc _ _ _ (by simp;omega)).trans ((Below.heap_alloc _ _ _ hl).trans HAR.out)
     have hne1:wr.heap.size≠w.heap.size:=by omega
     have hl4:m<=4398046511104:=by have:=HR.out;have:=HLM.out;omega
     clear gx;go_wp2_with fail
     go_region_held3 (fun w'=>w'.cell? ⟨wr.heap.size,0,none⟩ = some (.int .i64 x.1)/\w'.cell? ⟨wr.heap.size,1,none⟩ = some (.int .i64 x.2.1)/\w'.cell? ⟨wr.heap.size,2,none⟩ = some (.int .i64 x.2.2.1)/\w'.cell? ⟨wr.heap.size,3,none⟩ = some (.int .i64 x.2.2.2)) (first | exact HSS.out | exact four_drew HSS.out | exact four_drew (four_alloc HSS.out _) | exact four_alloc HSS.out _ | exact four_step (four_drew (four_alloc HSS.out _)) (by assumption) | exact four_set (four_step (four_drew (four_alloc HSS.out _)) (by assumption)) hne1 _ | exact four_set (four_set (four_step (four_drew (four_alloc HSS.out _)) (by assumption)) hne1 _) hne1 _) (first
      | (go_at_call 168;refine (without_any _ _ l [x] ((wr.alloc (BO x)).alloc (BO x)).drew HV4.out HX4.out (by rw [HLM.out];exact hl4)).mono ?_;rintro e w5 ⟨pu,nu,cu,rfl,hr,hb5⟩;have hz5:=hand_of (HZ.out w5 hb5);have hf5:=hand_froz (HZ.out w5 hb5);obtain ⟨z0,z1⟩:=hz5))
     have HEND:Hid (At EO (fun b=>wr.heap.size<=b) w5 (.slice pu nu cu) (Op.without l [x])/\Bw w w5):=by
      exact ⟨hr.imp (fun b hb _=>by have hb':((wr.alloc (BO x)).alloc (BO x)).heap.size<=b:=hb;simp at hb';omega),HB4.out.trans ((undrew hb5).mono HB4.out.size)⟩
     clear hr hb5;go_wp2
     (try simp only [Exit.inBlock,Exit.then])
     refine bodyPost_ret (v:=.tuple #[.slice pu nu cu,VH x.2.2.1 x.2.2.2,.int .i64 0]) ?_ rfl ⟨pu,nu,cu,by rw [HEE.out.1,HEE.out.2.1,HEE.out.2.2.1],?_,?_⟩
     ·rw [results_tct rfl]
      go_simp
     ·rw [HEE.out.2.2.2];refine At.imp (S:=fun b=>wr.heap.size<=b) ?_ (fun b hb _=>by omega)
      repeat (refine At.setCello ?_ (by simp;omega) _)
      exact HEND.out.1
     ·repeat (refine Below.setCell ?_ (by simp) _)
      exact HEND.out.2
    ·have HP2:Hid (l.find? (Op.mine c fd) = (g.drop (k + 1)).find? (fun x=>x.1 == fd)):=by
      have:=HP.out;rw [Op.drop_at HXK.out,List.find?_cons_of_neg (by simp [gx])] at this;exact this
     have g1:(x.1 == fd) = false:=beq_eq_false_iff_ne.2 gx;clear gx;go_wp2
     go_roundw
     case rel=>exact ⟨k + 1,by omega,by go_num,HP2,HB.out.alloc hsz _⟩
     case measure=>simp [intOf];omega
   ·obtain rfl:k = n:=by omega
    have HEE:Hid (ce = 411/\o1 = 0/\o2 = 0/\Op.closed l c fd = []):=by
     have e1:=HE.out;have e2:=HO.out;have e3:=HC.out;have e4:=HCE.out;have hf:=HP.out;rw [← HN.out,List.drop_length,List.find?_nil] at hf;rw [hf] at e1 e2 e3;simp only at e1 e2 e3;rw [e1,e2] at e4;exact ⟨e4.1.symm,e4.2.1.symm,e4.2.2.symm,e3⟩
    obtain ⟨z0,z1⟩:=hand_of HAR.out;have zf:=hand_froz HAR.out;go_wp2
    (try simp only [Exit.inBlock,Exit.then])
    refine bodyPost_ret (v:=.tuple #[.slice none 0 0,VH 0 0,.int .i64 411]) ?_ rfl ⟨none,0,0,by rw [HEE.out.1,HEE.out.2.1,HEE.out.2.2.1],by rw [HEE.out.2.2.2];exact At.nil,?_⟩
    ·rw [results_tct rfl]
     go_simp
    ·repeat (refine Below.setCell ?_ (by simp) _)
     exact HB3.out
 ·have HE:Hid (Op.closeErr l c fd = Op.ask l c):=if_neg ha;have HO:Hid (Op.closeOf l c fd = (0,0)):=if_neg ha;have HC:Hid (Op.closed l c fd = []):=if_neg ha;rw [HE.out,HO.out];obtain ⟨a,haa⟩:=qE (Op.ask l c);have HA:Hid (Op.ask l c = a):=haa;rw [haa] at ha ⊢;have hne:(a == 0) = false:=beq_eq_false_iff_ne.2 ha;clear ha haa;go_enter Tryz.func112,Tryz.ntmps112;go_wp2_with fail;rw [← hW];refine (refuse_any _ l c _ HV.out).mono ?_;rintro e w1 ⟨rfl,hb⟩;rw [HA.out];have HB1:Hid (Bw w w1):=HB0.out.trans (hb.mono HB0.out.size);have HA1:Hid (w1.heap[w.heap.size]? = some (BH 0 0)):=(hb.block _ (qL HA0.out)).trans HA0.out;obtain ⟨z0,z1⟩:=hand_of HA1.out;have zf:=hand_froz HA1.out;clear hb hW;go_wp2
  (try simp only [Exit.inBlock,Exit.then])
  refine bodyPost_ret (v:=.tuple #[.slice none 0 0,VH 0 0,.int .i64 a]) ?_ rfl ⟨none,0,0,rfl,by rw [HC.out];exact At.nil,?_⟩
  ·rw [results_tct rfl]
   go_simp
  ·repeat (refine Below.setCell ?_ (by simp) _)
   exact HB1.out
end Go.Proofs.YtneojimodomohaaGreat.Os
