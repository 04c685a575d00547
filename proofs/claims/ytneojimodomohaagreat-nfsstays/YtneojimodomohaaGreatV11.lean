/- FAddA, FAdd, FRem, SpF, as one. -/
import Derived.Test.YtneojimodomohaaGreatV10
set_option maxHeartbeats 8000000
set_option maxRecDepth 100000
namespace Go.Proofs.YtneojimodomohaaGreat
section
open Go.ChangeShapes Go.WideShapes Go.ChangeAt Go.RowKit Go.Deep
namespace Fo
noncomputable def addErr (l:List Ent) (next:Int) (s:ByteArray) (no gen:Int):Int :=
 if ask l next s = 0 then (if Ho no gen then (if at' (called s) l = -1 then (if next = 1099511627776 then 407 else 0) else 403) else 1) else ask l next s
theorem add_ask {l:List Ent} {next:Int} {s:ByteArray} {no gen e:Int} (h:ask l next s = e) (he:e≠0):addErr l next s no gen = e:=by unfold addErr;rw [if_neg (by rw [h];exact he),h]
theorem add_ho {l:List Ent} {next:Int} {s:ByteArray} {no gen:Int} (h:ask l next s = 0) (ho:¬ Ho no gen):addErr l next s no gen = 1:=by unfold addErr;rw [if_pos h,if_neg ho]
theorem add_has {l:List Ent} {next:Int} {s:ByteArray} {no gen:Int} {k:Nat} (h:ask l next s = 0) (ho:Ho no gen) (ha:at' (called s) l = k):addErr l next s no gen = 403:=by unfold addErr;rw [if_pos h,if_pos ho,if_neg (by rw [ha];omega)]
theorem add_full {l:List Ent} {next:Int} {s:ByteArray} {no gen:Int} (h:ask l next s = 0) (ho:Ho no gen) (ha:at' (called s) l = -1) (hn:next = 1099511627776):addErr l next s no gen = 407:=by unfold addErr;rw [if_pos h,if_pos ho,if_pos ha,if_pos hn]
theorem add_ok {l:List Ent} {next:Int} {s:ByteArray} {no gen:Int} (h:ask l next s = 0) (ho:Ho no gen) (ha:at' (called s) l = -1) (hn:¬ next = 1099511627776):addErr l next s no gen = 0:=by unfold addErr;rw [if_pos h,if_pos ho,if_pos ha,if_neg hn]
end Fo
theorem contains_yes (v:Value) (l:List Ent) (s:ByteArray) (b k:Nat) (w:World) (hv:AtW EE w v l) (hb:b < w.heap.size) (hc:w.cell? ⟨b,0,none⟩ = some (.string s)) (hk:Fo.at' (Fo.called s) l = k) :
  Calls Tryz.prog 212 #[v,VF 214 b] w fun e w'=>e = .returned (.bool true)/\Bw w w':=by
 have HV:Hid _:=hv;have HC:Hid _:=hc;have HK:Hid _:=hk;clear hv hc hk;go_enter Tryz.func212,Tryz.ntmps212;go_wp2_with fail;refine (index_named v l s b _ HV.out hb HC.out).mono ?_;rintro e w1 ⟨rfl,hb1⟩;rw [HK.out];go_wp2;go_ret;exact ⟨rfl,hb1⟩
theorem contains_no (v:Value) (l:List Ent) (s:ByteArray) (b:Nat) (w:World) (hv:AtW EE w v l) (hb:b < w.heap.size) (hc:w.cell? ⟨b,0,none⟩ = some (.string s)) (hk:Fo.at' (Fo.called s) l = -1) :
  Calls Tryz.prog 212 #[v,VF 214 b] w fun e w'=>e = .returned (.bool false)/\Bw w w':=by
 have HV:Hid _:=hv;have HC:Hid _:=hc;have HK:Hid _:=hk;clear hv hc hk;go_enter Tryz.func212,Tryz.ntmps212;go_wp2_with fail;refine (index_named v l s b _ HV.out hb HC.out).mono ?_;rintro e w1 ⟨rfl,hb1⟩;rw [HK.out];go_wp2;go_ret;exact ⟨rfl,hb1⟩
theorem two_boxes (w:World) (v:Value) (next no gen:Int):((w.alloc (BD v next)).alloc (BHf no gen)).cell? ⟨w.heap.size,0,none⟩ = some v/\((w.alloc (BD v next)).alloc (BHf no gen)).cell? ⟨w.heap.size,1,none⟩ = some (.int .i64 next) /\
  ((w.alloc (BD v next)).alloc (BHf no gen)).cell? ⟨w.heap.size + 1,0,none⟩ = some (.int .i64 no)/\((w.alloc (BD v next)).alloc (BHf no gen)).cell? ⟨w.heap.size + 1,1,none⟩ = some (.int .i64 gen):=by
 have hb:=box_cells w v next;have hh:=heap_alloc_new (w.alloc (BD v next)) (BHf no gen);rw [show (w.alloc (BD v next)).heap.size = w.heap.size + 1 by simp] at hh;refine ⟨(cell_older (by simp) _ _).trans hb.1,(cell_older (by simp) _ _).trans hb.2,?_,?_⟩ <;> simp only [World.cell?,hh] <;> rfl
theorem refuseAdd_any (v:Value) (l:List Ent) (next:Int) (s:ByteArray) (no gen:Int) (w:World) (hv:AtW EE w v l) (hs:∀ x∈l,x.1.size<=maxLen) (hn:s.size<=maxLen) :
  Calls Tryz.prog 205 #[VD v next,.string s,VHf no gen] w fun e w'=>e = .returned (.int .i64 (Fo.addErr l next s no gen))/\Bw w w':=by
 obtain ⟨W,hW⟩:=qF ((w.alloc (BD v next)).alloc (BHf no gen));have HB0:Hid (Bw w W):=by show Bw w W;rw [hW];exact (qG _ _).alloc (by simp) _
 have hws:w.heap.size + 1 < W.heap.size:=by rw [hW];simp
 obtain ⟨a0,a1,a2,a3⟩:=two_boxes w v next no gen;rw [← hW] at a0 a1 a2 a3;have HV:Hid (AtW EE W v l):=hv.up HB0.out;have HS:Hid (∀ x∈l,x.1.size<=maxLen):=hs;have HNN:Hid (s.size<=maxLen):=hn;clear hv hs hn;rcases Fo.ask_or l next s with ⟨ha,-,-⟩ | ⟨ha,-⟩ | ⟨ha,-,-⟩
 ·have HA:Hid (Fo.ask l next s = 0):=ha
  by_cases ho:Ho no gen
  ·have HD:Hid (decide (Ho no gen) = true):=decide_eq_true ho;rcases Fo.at_or (Fo.called s) l with ⟨ht,-⟩ | ⟨k,x,ht,-,-,-⟩
   ·have HT:Hid (Fo.at' (Fo.called s) l = -1):=ht
    by_cases hx:next = 1099511627776
    ·have HE:Hid (Fo.addErr l next s no gen = 407):=Fo.add_full ha ho ht hx;have hx':(next == 1099511627776) = true:=by simp [hx]
     clear ha ho ht hx;go_enter Tryz.func205,Tryz.ntmps205;go_wp2_with fail;rw [← hW];refine (frefuse_any v l next s _ HV.out HS.out HNN.out).mono ?_;rintro e w1 ⟨rfl,hb⟩;rw [HA.out];have HB1:Hid (Bw w w1):=HB0.out.trans (hb.mono HB0.out.size);have e0:=cell_next a0 hb (by omega);have e1:=cell_next a1 hb (by omega);have e2:=cell_next a2 hb (by omega);have e3:=cell_next a3 hb (by omega);have HV1:Hid (AtW EE w1 v l):=HV.out.up hb;have hs1:=hb.size;clear hb hW a0 a1 a2 a3;go_wp2_with fail;refine (rightTo_any no gen _).mono ?_;rintro e w2 ⟨rfl,rfl⟩;rw [HD.out];have HB2:Hid (Bw w (w1.alloc (BHf no gen))):=HB1.out.alloc HB1.out.size _;have HV2:Hid (AtW EE (w1.alloc (BHf no gen)) v l):=HV1.out.up (qG _ _);have f0:=(cell_older (by omega) (BHf no gen) 0).trans e0;have f1:=(cell_older (by omega) (BHf no gen) 1).trans e1;have HSS:Hid ((w1.alloc (BHf no gen)).cell? ⟨w.heap.size,0,none⟩ = some v):=f0;generalize w1.alloc (BHf no gen) = w2 at *;clear e0 e1 e2 e3;go_wp2_with fail
     go_region_held3 (fun w'=>w'.cell? ⟨w.heap.size,0,none⟩ = some v) (first | exact HSS.out | exact cell_step (by assumption) (by assumption)) (first
      | (go_at_call 211;refine (named_any s _).mono ?_;rintro e w3 ⟨bx,rfl,hbx,hcx,hb3⟩)
      | (go_at_call 212;refine (contains_no _ l s bx _ (HV2.out.up (undrew hb3)) hbx hcx HT.out).mono ?_;rintro e w4 ⟨rfl,hb4⟩))
     have HB4:Hid (Bw w w4):=by
      have h2:=HB2.out.trans ((undrew hb3).mono HB2.out.size);exact h2.trans (hb4.mono h2.size)
     have g1:=cell_step (cell_step f1 (undrew hb3)) hb4;clear hb3 hb4 hbx hcx f0 f1;go_wp2;go_ret;rw [HE.out];exact ⟨rfl,HB4.out⟩
    ·have HE:Hid (Fo.addErr l next s no gen = 0):=Fo.add_ok ha ho ht hx;have hx':(next == 1099511627776) = false:=by simp [hx]
     clear ha ho ht hx;go_enter Tryz.func205,Tryz.ntmps205;go_wp2_with fail;rw [← hW];refine (frefuse_any v l next s _ HV.out HS.out HNN.out).mono ?_;rintro e w1 ⟨rfl,hb⟩;rw [HA.out];have HB1:Hid (Bw w w1):=HB0.out.trans (hb.mono HB0.out.size);have e0:=cell_next a0 hb (by omega);have e1:=cell_next a1 hb (by omega);have e2:=cell_next a2 hb (by omega);have e3:=cell_next a3 hb (by omega);have HV1:Hid (AtW EE w1 v l):=HV.out.up hb;have hs1:=hb.size;clear hb hW a0 a1 a2 a3;go_wp2_with fail;refine (rightTo_any no gen _).mono ?_;rintro e w2 ⟨rfl,rfl⟩;rw [HD.out];have HB2:Hid (Bw w (w1.alloc (BHf no gen))):=HB1.out.alloc HB1.out.size _;have HV2:Hid (AtW EE (w1.alloc (BHf no gen)) v l):=HV1.out.up (qG _ _);have f0:=(cell_older (by omega) (BHf no gen) 0).trans e0;have f1:=(cell_older (by omega) (BHf no gen) 1).trans e1;have HSS:Hid ((w1.alloc (BHf no gen)).cell? ⟨w.heap.size,0,none⟩ = some v):=f0;generalize w1.alloc (BHf no gen) = w2 at *;clear e0 e1 e2 e3;go_wp2_with fail
     go_region_held3 (fun w'=>w'.cell? ⟨w.heap.size,0,none⟩ = some v) (first | exact HSS.out | exact cell_step (by assumption) (by assumption)) (first
      | (go_at_call 211;refine (named_any s _).mono ?_;rintro e w3 ⟨bx,rfl,hbx,hcx,hb3⟩)
      | (go_at_call 212;refine (contains_no _ l s bx _ (HV2.out.up (undrew hb3)) hbx hcx HT.out).mono ?_;rintro e w4 ⟨rfl,hb4⟩))
     have HB4:Hid (Bw w w4):=by
      have h2:=HB2.out.trans ((undrew hb3).mono HB2.out.size);exact h2.trans (hb4.mono h2.size)
     have g1:=cell_step (cell_step f1 (undrew hb3)) hb4;clear hb3 hb4 hbx hcx f0 f1;go_wp2;go_ret;rw [HE.out];exact ⟨rfl,HB4.out⟩
   ·have HT:Hid (Fo.at' (Fo.called s) l = k):=ht;have HE:Hid (Fo.addErr l next s no gen = 403):=Fo.add_has ha ho ht;clear ha ho ht;go_enter Tryz.func205,Tryz.ntmps205;go_wp2_with fail;rw [← hW];refine (frefuse_any v l next s _ HV.out HS.out HNN.out).mono ?_;rintro e w1 ⟨rfl,hb⟩;rw [HA.out];have HB1:Hid (Bw w w1):=HB0.out.trans (hb.mono HB0.out.size);have e0:=cell_next a0 hb (by omega);have e1:=cell_next a1 hb (by omega);have e2:=cell_next a2 hb (by omega);have e3:=cell_next a3 hb (by omega);have HV1:Hid (AtW EE w1 v l):=HV.out.up hb;have hs1:=hb.size;clear hb hW a0 a1 a2 a3;go_wp2_with fail;refine (rightTo_any no gen _).mono ?_;rintro e w2 ⟨rfl,rfl⟩;rw [HD.out];have HB2:Hid (Bw w (w1.alloc (BHf no gen))):=HB1.out.alloc HB1.out.size _;have HV2:Hid (AtW EE (w1.alloc (BHf no gen)) v l):=HV1.out.up (qG _ _);have f0:=(cell_older (by omega) (BHf no gen) 0).trans e0;have f1:=(cell_older (by omega) (BHf no gen) 1).trans e1;have HSS:Hid ((w1.alloc (BHf no gen)).cell? ⟨w.heap.size,0,none⟩ = some v):=f0;generalize w1.alloc (BHf no gen) = w2 at *;clear e0 e1 e2 e3;go_wp2_with fail
    go_region_held3 (fun w'=>w'.cell? ⟨w.heap.size,0,none⟩ = some v) (first | exact HSS.out | exact cell_step (by assumption) (by assumption)) (first
     | (go_at_call 211;refine (named_any s _).mono ?_;rintro e w3 ⟨bx,rfl,hbx,hcx,hb3⟩)
     | (go_at_call 212;refine (contains_yes _ l s bx k _ (HV2.out.up (undrew hb3)) hbx hcx HT.out).mono ?_;rintro e w4 ⟨rfl,hb4⟩))
    have HB4:Hid (Bw w w4):=by
     have h2:=HB2.out.trans ((undrew hb3).mono HB2.out.size);exact h2.trans (hb4.mono h2.size)
    have g1:=cell_step (cell_step f1 (undrew hb3)) hb4;clear hb3 hb4 hbx hcx f0 f1;go_wp2;go_ret;rw [HE.out];exact ⟨rfl,HB4.out⟩
  ·have HD:Hid (decide (Ho no gen) = false):=decide_eq_false ho;have HE:Hid (Fo.addErr l next s no gen = 1):=Fo.add_ho ha ho;clear ha ho;go_enter Tryz.func205,Tryz.ntmps205;go_wp2_with fail;rw [← hW];refine (frefuse_any v l next s _ HV.out HS.out HNN.out).mono ?_;rintro e w1 ⟨rfl,hb⟩;rw [HA.out];have HB1:Hid (Bw w w1):=HB0.out.trans (hb.mono HB0.out.size);have e0:=cell_next a0 hb (by omega);have e1:=cell_next a1 hb (by omega);have e2:=cell_next a2 hb (by omega);have e3:=cell_next a3 hb (by omega);have HV1:Hid (AtW EE w1 v l):=HV.out.up hb;have hs1:=hb.size;clear hb hW a0 a1 a2 a3;go_wp2_with fail;refine (rightTo_any no gen _).mono ?_;rintro e w2 ⟨rfl,rfl⟩;rw [HD.out];go_wp2;go_ret;rw [HE.out];exact ⟨rfl,HB1.out.alloc HB1.out.size _⟩
 ·have HA:Hid (Fo.ask l next s = 4):=ha;have HE:Hid (Fo.addErr l next s no gen = 4):=Fo.add_ask ha (by decide);rw [HE.out];clear ha;go_enter Tryz.func205,Tryz.ntmps205;go_wp2_with fail;rw [← hW];refine (frefuse_any v l next s _ HV.out HS.out HNN.out).mono ?_;rintro e w1 ⟨rfl,hb⟩;rw [HA.out];have HB1:Hid (Bw w w1):=HB0.out.trans (hb.mono HB0.out.size);go_wp2;go_ret;exact ⟨rfl,HB1.out⟩
 ·have HA:Hid (Fo.ask l next s = 409):=ha;have HE:Hid (Fo.addErr l next s no gen = 409):=Fo.add_ask ha (by decide);rw [HE.out];clear ha;go_enter Tryz.func205,Tryz.ntmps205;go_wp2_with fail;rw [← hW];refine (frefuse_any v l next s _ HV.out HS.out HNN.out).mono ?_;rintro e w1 ⟨rfl,hb⟩;rw [HA.out];have HB1:Hid (Bw w w1):=HB0.out.trans (hb.mono HB0.out.size);go_wp2;go_ret;exact ⟨rfl,HB1.out⟩
abbrev BZD:Obj:=.cells #[.slice none 0 0,.int .i64 0] 142
theorem dir_of {w:World} {A:Nat} {v:Value} {n:Int} (h:w.heap[A]? = some (BD v n)) :
  (w.cell? ⟨A,0,none⟩ = some v/\w.cell? ⟨A,1,none⟩ = some (.int .i64 n))/\∀ j,w.frozen? ⟨A,j,none⟩ = false:=by
 refine ⟨⟨?_,?_⟩,fun j=>?_⟩ <;> simp [World.cell?,World.frozen?,h]
namespace Fo
theorem right_len {l:List Ent} {next:Int} (h:Right l next):(l.length:Int)<=next:=by
 have key:∀ k:Nat,k<=l.length->(k:Int)<=lastC l k:=fun k=>by
  induction k with
  | zero=>intro _;exact Int.le_refl _
  | succ k ih =>
   intro hk;have hx:l[k]? = some l[k]:=List.getElem?_eq_getElem (by omega);have hg:=h.2.1 k (by omega) _ hx;have:=ih (by omega);rw [lastC_succ hx];omega
 have h1:=key l.length (Nat.le_refl _);have h2:=(lastC_bd h.2.1 (Nat.le_refl _) h.1.1).2;omega
theorem add_zero {l:List Ent} {next:Int} {s:ByteArray} {no gen:Int} (h:addErr l next s no gen = 0):Right l next/\Nm.ok s/\Ho no gen/\at' (called s) l = -1/\next≠1099511627776:=by
 rcases ask_or l next s with ⟨ha,hr,ho⟩ | ⟨ha,-⟩ | ⟨ha,-,-⟩
 ·by_cases hh:Ho no gen
  ·rcases at_or (called s) l with ⟨ht,-⟩ | ⟨k,x,ht,-,-,-⟩
   ·by_cases hx:next = 1099511627776
    ·rw [add_full ha hh ht hx] at h
     cases h
    ·exact ⟨hr,ho,hh,ht,hx⟩
   ·rw [add_has ha hh ht] at h
    cases h
  ·rw [add_ho ha hh] at h
   cases h
 ·rw [add_ask ha (by decide)] at h
  cases h
 ·rw [add_ask ha (by decide)] at h
  cases h
end Fo
abbrev Five (D X:Nat) (v:Value) (x:Ent) (w:World):Prop:=w.cell? ⟨D,0,none⟩ = some v/\w.cell? ⟨X,0,none⟩ = some (.string x.1)/\w.cell? ⟨X,1,none⟩ = some (.int .i64 x.2.1)/\w.cell? ⟨X,2,none⟩ = some (.int .i64 x.2.2.1)/\w.cell? ⟨X,3,none⟩ = some (.int .i64 x.2.2.2)
theorem five_step {D X:Nat} {v:Value} {x:Ent} {w w':World} (h:Five D X v x w) (hb:Bw w w'):Five D X v x w' :=
 ⟨cell_step h.1 hb,cell_step h.2.1 hb,cell_step h.2.2.1 hb,cell_step h.2.2.2.1 hb,cell_step h.2.2.2.2 hb⟩
theorem five_alloc {D X:Nat} {v:Value} {x:Ent} {w:World} (h:Five D X v x w) (o:Obj):Five D X v x (w.alloc o):=five_step h (qG _ _)
theorem five_drew {D X:Nat} {v:Value} {x:Ent} {w:World} (h:Five D X v x w):Five D X v x w.drew:=h
theorem three_boxes (w:World) (v:Value) (next no gen:Int):Bw w (((w.alloc (BD v next)).alloc (BHf no gen)).alloc BZD)/\w.heap.size + 2 < (((w.alloc (BD v next)).alloc (BHf no gen)).alloc BZD).heap.size /\
  (((w.alloc (BD v next)).alloc (BHf no gen)).alloc BZD).cell? ⟨w.heap.size,0,none⟩ = some v/\(((w.alloc (BD v next)).alloc (BHf no gen)).alloc BZD).cell? ⟨w.heap.size,1,none⟩ = some (.int .i64 next) /\
  (((w.alloc (BD v next)).alloc (BHf no gen)).alloc BZD).cell? ⟨w.heap.size + 1,0,none⟩ = some (.int .i64 no)/\(((w.alloc (BD v next)).alloc (BHf no gen)).alloc BZD).cell? ⟨w.heap.size + 1,1,none⟩ = some (.int .i64 gen) /\
  (((w.alloc (BD v next)).alloc (BHf no gen)).alloc BZD).heap[w.heap.size + 2]? = some BZD:=by
 obtain ⟨h0,h1,h2,h3⟩:=two_boxes w v next no gen;refine ⟨((qG _ _).alloc (by simp) _).alloc (by simp;omega) _,by simp,(cell_older (by simp;omega) _ _).trans h0,(cell_older (by simp;omega) _ _).trans h1,(cell_older (by simp) _ _).trans h2,(cell_older (by simp) _ _).trans h3,?_⟩;have hh:=heap_alloc_new ((w.alloc (BD v next)).alloc (BHf no gen)) BZD
 rwa [show ((w.alloc (BD v next)).alloc (BHf no gen)).heap.size = w.heap.size + 2 by simp] at hh
theorem five_set {D X:Nat} {v:Value} {x:Ent} {w:World} (h:Five D X v x w) {p:Addr} (hD:D≠p.block) (hX:X≠p.block) (u:Value):Five D X v x (w.setCell p u) :=
 ⟨(cell_block (Below.heap_setCell _ _ _ _ hD)).trans h.1,(cell_block (Below.heap_setCell _ _ _ _ hX)).trans h.2.1,(cell_block (Below.heap_setCell _ _ _ _ hX)).trans h.2.2.1,(cell_block (Below.heap_setCell _ _ _ _ hX)).trans h.2.2.2.1,(cell_block (Below.heap_setCell _ _ _ _ hX)).trans h.2.2.2.2⟩
theorem At.setCellF {α:Type} {E:Enc α} {S:Nat->Prop} {w:World} {v:Value} {l:List α} (h:At E S w v l) {p:Addr} (hp:¬ S p.block) (u:Value):At E S (w.setCell p u) v l :=
 h.keep (by simp [World.setCell]) fun b hS _=>⟨Below.heap_setCell _ _ _ _ (fun e=>hp (e ▸ hS)),hS⟩
theorem at_one {w:World} {B:Nat} {x:Ent} (h:w.heap[B]? = some (BE x)):AtW EE w (.slice (some ⟨B,0,none⟩) 1 1) [x]:=by
 refine .inr ⟨B,0,1,rfl,trivial,(qL h),by simp,by simp,by decide,fun j u hj=>?_⟩;simp only [World.cell?,h,Nat.zero_add];simpa [Enc.flat,EE] using hj
theorem concat_add (w1:World) (v:Value) (l:List Ent) (x:Ent) (hv:AtW EE w1 v l) (hl:l.length + 1<=2199023255552) :
  Calls Tryz.prog 206 #[.slice (some ⟨w1.heap.size + 1 + 1,0,none⟩) 2 2] (((w1.alloc (BE x)).alloc (BE x)).alloc (.cells #[v,.slice (some ⟨w1.heap.size + 1,0,none⟩) 1 1] 38)).drew
   fun e w'=>∃ u,e = .returned u/\Row EE w' (w1.heap.size + 1 + 1 + 1) 110 u (l ++ [x])/\Below (((w1.alloc (BE x)).alloc (BE x)).alloc (.cells #[v,.slice (some ⟨w1.heap.size + 1,0,none⟩) 1 1] 38)).drew.heap.size (((w1.alloc (BE x)).alloc (BE x)).alloc (.cells #[v,.slice (some ⟨w1.heap.size + 1,0,none⟩) 1 1] 38)).drew w':=by
 have hh:=heap_alloc_new ((w1.alloc (BE x)).alloc (BE x)) (.cells #[v,.slice (some ⟨w1.heap.size + 1,0,none⟩) 1 1] 38);have h2:=heap_alloc_new (w1.alloc (BE x)) (BE x);have z1:(w1.alloc (BE x)).heap.size = w1.heap.size + 1:=by simp
 have z2:((w1.alloc (BE x)).alloc (BE x)).heap.size = w1.heap.size + 1 + 1:=by simp
 rw [z1] at h2;rw [z2] at hh;have hb1:Bw w1 (((w1.alloc (BE x)).alloc (BE x)).alloc (.cells #[v,.slice (some ⟨w1.heap.size + 1,0,none⟩) 1 1] 38)):=((qG _ _).alloc (by simp) _).alloc (by simp;omega) _;have h2':=(Below.heap_alloc ((w1.alloc (BE x)).alloc (BE x)) (.cells #[v,.slice (some ⟨w1.heap.size + 1,0,none⟩) 1 1] 38) (w1.heap.size + 1) (by rw [z2];omega)).trans h2;have z3:(((w1.alloc (BE x)).alloc (BE x)).alloc (.cells #[v,.slice (some ⟨w1.heap.size + 1,0,none⟩) 1 1] 38)).heap.size = w1.heap.size + 1 + 1 + 1:=by simp
 have hv3:=hv.up hb1;have h1:=at_one h2';generalize ((w1.alloc (BE x)).alloc (BE x)).alloc (.cells #[v,.slice (some ⟨w1.heap.size + 1,0,none⟩) 1 1] 38) = w3 at *;have hc:=concat_two (w1.heap.size + 1 + 1) v _ l [x] w3.drew (by show _ < w3.heap.size;omega) (by simp only [World.cell?];rw [show w3.drew.heap[w1.heap.size + 1 + 1]? = w3.heap[w1.heap.size + 1 + 1]? from rfl,hh];rfl) (by simp only [World.cell?];rw [show w3.drew.heap[w1.heap.size + 1 + 1]? = w3.heap[w1.heap.size + 1 + 1]? from rfl,hh];rfl) hv3 h1 (by simpa using hl);refine hc.mono ?_;rintro e w5 ⟨u,rfl,hr,hb⟩;refine ⟨u,rfl,?_,hb⟩;rw [← z3];exact hr
theorem add_any (v:Value) (l:List Ent) (next:Int) (s:ByteArray) (no gen:Int) (w:World) (hv:AtW EE w v l) (hs:∀ x∈l,x.1.size<=maxLen) (hn:s.size<=maxLen) :
  Calls Tryz.prog 191 #[VD v next,.string s,VHf no gen] w fun e w'=>∃ u,e = .returned (.tuple #[VD u (if Fo.addErr l next s no gen = 0 then next + 1 else 0),.int .i64 (Fo.addErr l next s no gen)]) /\
   At EE (fun b=>w.heap.size<=b) w' u (if Fo.addErr l next s no gen = 0 then l ++ [(s,next + 1,no,gen)] else [])/\Bw w w':=by
 have hv0:=hv;obtain ⟨ao,cap,rfl,hm,-⟩:=hv0.open;clear hv0;unfold maxLen at hm;obtain ⟨m,hlm⟩:=qE l.length;rw [hlm] at hm hv ⊢;have HLM:Hid _:=hlm;clear hlm;obtain ⟨v,hvv⟩:=qF (Value.slice ao m cap);rw [← hvv] at hv ⊢;obtain ⟨hb0,hws,a0,a1,a2,a3,a4⟩:=three_boxes w v next no gen;obtain ⟨W,hW⟩:=qF (((w.alloc (BD v next)).alloc (BHf no gen)).alloc BZD);rw [← hW] at hb0 hws a0 a1 a2 a3 a4;have HB0:Hid _:=hb0;have HA0:Hid (W.heap[w.heap.size + 2]? = some BZD):=a4;have HV:Hid (AtW EE W v l):=hv.up HB0.out;have HS:Hid (∀ x∈l,x.1.size<=maxLen):=hs;have HNN:Hid (s.size<=maxLen):=hn;clear hv hs hn hb0 a4;obtain ⟨fe,hfe⟩:=qE (Fo.addErr l next s no gen);have HE:Hid (Fo.addErr l next s no gen = fe):=hfe;rw [hfe]
 by_cases hz:fe = 0
 ·have HR:Hid (Fo.Right l next/\next < 1099511627776):=by
   have h0:=Fo.add_zero (hfe.trans hz);have h1:=h0.1.1.2;exact ⟨h0.1,by have:=h0.2.2.2.2;omega⟩
  obtain ⟨hn0,hn1⟩:0<=next/\next < 1099511627776:=⟨HR.out.1.1.1,HR.out.2⟩;subst hz;subst hvv;rw [if_pos rfl,if_pos rfl];clear hfe;go_enter Tryz.func191,Tryz.ntmps191;go_wp2_with fail;rw [← hW];refine (refuseAdd_any _ l next s no gen _ HV.out HS.out HNN.out).mono ?_;rintro e w1 ⟨rfl,hb⟩;rw [HE.out];have HB1:=qJ HB0 hb;have HA1:=qK hb HA0;have e0:=cell_next a0 hb (by omega);have e1:=cell_next a1 hb (by omega);have e2:=cell_next a2 hb (by omega);have e3:=cell_next a3 hb (by omega);have HV1:Hid (AtW EE w1 (.slice ao m cap) l):=HV.out.up hb;have hs1:=hb.size;clear hb hW a0 a1 a2 a3;have HSS:Hid (Five w.heap.size w1.heap.size (.slice ao m cap) (s,next + 1,no,gen) (w1.alloc (BE (s,next + 1,no,gen)))):=by
   have hh:=heap_alloc_new w1 (BE (s,next + 1,no,gen));refine ⟨(cell_older (by omega) _ _).trans e0,?_,?_,?_,?_⟩ <;> simp only [World.cell?,hh] <;> rfl
  have HRL:Hid (l.length<=1099511627776):=by
   have:=Fo.right_len HR.out.1;show l.length<=1099511627776;omega
  have HZ:Hid (∀ w5,Below (((w1.alloc (BE (s,next + 1,no,gen))).alloc (BE (s,next + 1,no,gen))).alloc (.cells #[.slice ao m cap,.slice (some ⟨w1.heap.size + 1,0,none⟩) 1 1] 38)).drew.heap.size (((w1.alloc (BE (s,next + 1,no,gen))).alloc (BE (s,next + 1,no,gen))).alloc (.cells #[.slice ao m cap,.slice (some ⟨w1.heap.size + 1,0,none⟩) 1 1] 38)).drew w5->w5.heap[w.heap.size + 2]? = some BZD):=fun w5 hb=>by
   have hl:=(qL HA1.out);rw [hb.block _ (by show _ < Array.size _;simp;omega)];exact (Below.heap_alloc _ _ _ (by simp;omega)).trans ((Below.heap_alloc _ _ _ (by simp;omega)).trans ((Below.heap_alloc _ _ _ hl).trans HA1.out))
  have hne1:w.heap.size≠w.heap.size + 2:=by omega
  have hne2:w1.heap.size≠w.heap.size + 2:=by omega
  go_wp2_with fail
  go_region_held3 (fun w'=>w'.cell? ⟨w.heap.size,0,none⟩ = some (.slice ao m cap)/\w'.cell? ⟨w1.heap.size,0,none⟩ = some (.string s)/\w'.cell? ⟨w1.heap.size,1,none⟩ = some (.int .i64 (next + 1))/\w'.cell? ⟨w1.heap.size,2,none⟩ = some (.int .i64 no)/\w'.cell? ⟨w1.heap.size,3,none⟩ = some (.int .i64 gen)) (first | exact HSS.out | exact five_drew HSS.out | exact five_drew (five_alloc HSS.out _) | exact five_drew (five_alloc (five_alloc HSS.out _) _) | exact five_alloc HSS.out _ | exact five_alloc (five_alloc HSS.out _) _ | exact five_step (five_drew (five_alloc (five_alloc HSS.out _) _)) (by assumption) | exact five_set (five_step (five_drew (five_alloc (five_alloc HSS.out _) _)) (by assumption)) hne1 hne2 _ | exact five_set (five_set (five_step (five_drew (five_alloc (five_alloc HSS.out _) _)) (by assumption)) hne1 hne2 _) hne1 hne2 _) (first
   | (go_at_call 206;refine (concat_add w1 _ l (s,next + 1,no,gen) HV1.out (by have:=HLM.out;have:=HRL.out;omega)).mono ?_;rintro e w5 ⟨u,rfl,hr,hb5⟩;obtain ⟨pu,cu,rfl⟩:=hr.slice;obtain ⟨⟨z0,z1⟩,zf⟩:=dir_of (HZ.out w5 hb5)))
  have HEND:Hid (At EE (fun b=>w1.heap.size<=b) w5 (.slice pu (l.length + 1) cu) (l ++ [(s,next + 1,no,gen)])/\Bw w w5/\w.heap.size + 2 < w1.heap.size):=by
   have hl:=(qL HA1.out);have h:=hr.at.imp (T:=fun b=>w1.heap.size<=b) (fun b hb _=>by omega);rw [List.length_append,List.length_singleton] at h;have h3:Bw w (((w1.alloc (BE (s,next + 1,no,gen))).alloc (BE (s,next + 1,no,gen))).alloc (.cells #[.slice ao m cap,.slice (some ⟨w1.heap.size + 1,0,none⟩) 1 1] 38)):=((HB1.out.alloc (by omega) _).alloc (by simp;omega) _).alloc (by simp;omega) _;exact ⟨h,h3.trans ((undrew hb5).mono h3.size),hl⟩
  clear hr hb5 e0 e1 e2 e3;go_wp2
  (try simp only [Exit.inBlock,Exit.then])
  refine bodyPost_ret (v:=.tuple #[VD (.slice pu (l.length + 1) cu) (next + 1),.int .i64 0]) ?_ rfl ⟨.slice pu (l.length + 1) cu,rfl,?_,?_⟩
  ·rw [results_cell_tmp rfl]
   go_simp
  ·have hS:=HEND.out.2.2;refine At.imp (S:=fun b=>w1.heap.size<=b) ?_ (fun b hb _=>by omega)
   repeat (refine At.setCellF ?_ (by simp;omega) _)
   exact HEND.out.1
  ·repeat (refine Below.setCell ?_ (by simp;omega) _)
   exact HEND.out.2.1
 ·rw [if_neg hz,if_neg hz];have hz':(fe == 0) = false:=beq_eq_false_iff_ne.2 hz;subst hvv;clear hfe hz;go_enter Tryz.func191,Tryz.ntmps191;go_wp2_with fail;rw [← hW];refine (refuseAdd_any _ l next s no gen _ HV.out HS.out HNN.out).mono ?_;rintro e w1 ⟨rfl,hb⟩;rw [HE.out];have HB1:=qJ HB0 hb;have HA1:Hid _:=(hb.block _ hws).trans HA0.out;obtain ⟨⟨z0,z1⟩,zf⟩:=dir_of HA1.out;clear hb hW a0 a1 a2 a3;go_wp2
  (try simp only [Exit.inBlock,Exit.then])
  refine bodyPost_ret (v:=.tuple #[VD (.slice none 0 0) 0,.int .i64 fe]) ?_ rfl ⟨.slice none 0 0,rfl,At.nil,?_⟩
  ·rw [results_cell_tmp rfl]
   go_simp
  ·repeat (refine Below.setCell ?_ (by simp;omega) _)
   exact HB1.out
abbrev Two (D:Nat) (v:Value) (n:Int) (w:World):Prop:=w.cell? ⟨D,0,none⟩ = some v/\w.cell? ⟨D,1,none⟩ = some (.int .i64 n)
theorem tw_step {D:Nat} {v:Value} {n:Int} {w w':World} (h:Two D v n w) (hb:Bw w w'):Two D v n w':=⟨cell_step h.1 hb,cell_step h.2 hb⟩
theorem tw_alloc {D:Nat} {v:Value} {n:Int} {w:World} (h:Two D v n w) (o:Obj):Two D v n (w.alloc o):=tw_step h (qG _ _)
theorem tw_drew {D:Nat} {v:Value} {n:Int} {w:World} (h:Two D v n w):Two D v n w.drew:=h
theorem tw_set {D:Nat} {v:Value} {n:Int} {w:World} (h:Two D v n w) {p:Addr} (hD:D≠p.block) (u:Value):Two D v n (w.setCell p u) :=
 ⟨(cell_block (Below.heap_setCell _ _ _ _ hD)).trans h.1,(cell_block (Below.heap_setCell _ _ _ _ hD)).trans h.2⟩
theorem At.cut {α:Type} {E:Enc α} {S:Nat->Prop} {w:World} {b off m cap:Nat} {l:List α} (h:At E S w (.slice (some ⟨b,off,none⟩) m cap) l) {lo hi:Nat} (h1:lo<=hi) (h2:hi<=m):At E S w (sliced (some ⟨b,off,none⟩) lo hi cap E.sz) ((l.take hi).drop lo):=by
 by_cases he:hi = lo
 ·have hz:(l.take hi).drop lo = []:=by
   apply List.eq_nil_of_length_eq_zero
   simp;omega
  unfold sliced;rw [hz,show hi - lo = 0 by omega];exact .inl ⟨_,_,rfl,rfl⟩
 ·rcases h with ⟨ao,c,hv,rfl⟩ | ⟨b',off',c',hv,hS,hb,hp,hc,hm,hx⟩
  ·simp only [Value.slice.injEq] at hv;omega
  ·simp only [Value.slice.injEq,Option.some.injEq,Addr.mk.injEq,and_true] at hv;obtain ⟨⟨rfl,rfl⟩,rfl,rfl⟩:=hv;have hlen:((l.take hi).drop lo).length = hi - lo:=by simp;omega
   refine .inr ⟨b,off + lo * E.sz,cap - lo,?_,hS,hb,by omega,by omega,by omega,fun j u hj=>?_⟩
   ·rw [hlen];unfold sliced;rw [if_neg (by omega)];simp [WideShapes.add_plain]
   ·have e:l = l.take lo ++ ((l.take hi).drop lo ++ l.drop hi):=by
     have e1:l.take lo = (l.take hi).take lo:=by rw [List.take_take,Nat.min_eq_left h1]
     rw [← List.append_assoc,e1,List.take_append_drop,List.take_append_drop]
    have hlt:=(qM hj);have hl0:(E.flat (l.take lo)).length = lo * E.sz:=by rw [E.flat_length,List.length_take,Nat.min_eq_left (by omega)]
    have:=hx (lo * E.sz + j) u (by
     rw [e,E.flat_append,E.flat_append,List.getElem?_append_right (by omega),hl0,show lo * E.sz + j - lo * E.sz = j by omega,List.getElem?_append_left hlt];exact hj)
    rwa [← Nat.add_assoc] at this
theorem run_cut_h (w:World) (a:Option Addr) (m cap k:Nat) (hk:k<=cap):(Instr.slice 38 (.slice a m cap) none (some (.int .i64 (k:Int))) none).run Tryz.prog w = .ok (sliced a 0 k cap EE.sz) w:=by
 rw [run_slice_h (P:=Tryz.prog) w 38 a m cap Tryz.underlying38 .i64 (k:Int) (by omega) (by omega)];rfl
theorem run_cut_l (w:World) (a:Option Addr) (m cap k:Nat) (hk:k + 1<=m):(Instr.slice 38 (.slice a m cap) (some (.int .i64 ((k:Int) + 1))) none none).run Tryz.prog w = .ok (sliced a (k + 1) m cap EE.sz) w:=by
 rw [run_slice_l (P:=Tryz.prog) w 38 a m cap Tryz.underlying38 .i64 ((k:Int) + 1) (by omega) (by omega),show ((k:Int) + 1).toNat = k + 1 by omega];rfl
theorem concat_rem (w1:World) (v1 v2:Value) (l1 l2:List Ent) (h1:AtW EE w1 v1 l1) (h2:AtW EE w1 v2 l2) (hl:l1.length + l2.length<=2199023255552) :
  Calls Tryz.prog 206 #[.slice (some ⟨w1.heap.size,0,none⟩) 2 2] (w1.alloc (.cells #[v1,v2] 38)).drew
   fun e w'=>∃ u,e = .returned u/\Row EE w' (w1.heap.size + 1) 110 u (l1 ++ l2)/\Below (w1.alloc (.cells #[v1,v2] 38)).drew.heap.size (w1.alloc (.cells #[v1,v2] 38)).drew w':=by
 have hh:=heap_alloc_new w1 (.cells #[v1,v2] 38);have z3:(w1.alloc (.cells #[v1,v2] 38)).heap.size = w1.heap.size + 1:=by simp
 have hb:Bw w1 (w1.alloc (.cells #[v1,v2] 38)):=qG _ _;have k1:=h1.up hb;have k2:=h2.up hb;generalize w1.alloc (.cells #[v1,v2] 38) = w3 at *;have hc:=concat_two w1.heap.size v1 v2 l1 l2 w3.drew (by show _ < w3.heap.size;omega) (by simp only [World.cell?];rw [show w3.drew.heap[w1.heap.size]? = w3.heap[w1.heap.size]? from rfl,hh];rfl) (by simp only [World.cell?];rw [show w3.drew.heap[w1.heap.size]? = w3.heap[w1.heap.size]? from rfl,hh];rfl) k1 k2 hl;refine hc.mono ?_;rintro e w5 ⟨u,rfl,hr,hb⟩;refine ⟨u,rfl,?_,hb⟩;rw [← z3];exact hr
theorem Row.slice3 {α:Type} {E:Enc α} {w:World} {B:Nat} {e:TypeId} {v:Value} {ls:List α} (h:Row E w B e v ls):∃ p n c,v = .slice p n c:=by
 obtain ⟨p,c,h⟩:=h.slice;exact ⟨p,_,c,h⟩
theorem At.capd {α:Type} {E:Enc α} {S:Nat->Prop} {w:World} {a:Option Addr} {m cap:Nat} {l:List α} (h:At E S w (.slice a m cap) l) (h0:0 < m):m<=cap/\cap<=maxLen:=by
 rcases h with ⟨ao,c,hv,rfl⟩ | ⟨b',off',c',hv,hS,hb,hp,hc,hm,hx⟩
 ·simp only [Value.slice.injEq] at hv;omega
 ·simp only [Value.slice.injEq] at hv;omega
theorem remove_any (v:Value) (l:List Ent) (next:Int) (s:ByteArray) (w:World) (hv:AtW EE w v l) (hs:∀ x∈l,x.1.size<=maxLen) (hn:s.size<=maxLen) :
  Calls Tryz.prog 194 #[VD v next,.string s] w fun e w'=>∃ u,e = .returned (.tuple #[VD u (if Fo.findErr l next s = 0 then next else 0),.int .i64 (Fo.findErr l next s)]) /\
   At EE (fun b=>w.heap.size<=b) w' u (if Fo.findErr l next s = 0 then l.eraseIdx (Fo.plc l next s).toNat else [])/\Bw w w':=by
 have hv0:=hv;obtain ⟨ao,cap,rfl,hm,hx⟩:=hv0.open;clear hv0;unfold maxLen at hm;obtain ⟨m,hlm⟩:=qE l.length;rw [hlm] at hm hv ⊢;have HLM:Hid (l.length = m):=hlm;clear hlm;obtain ⟨v,hvv⟩:=qF (Value.slice ao m cap);rw [← hvv] at hv ⊢;obtain ⟨W,hW⟩:=qF ((w.alloc (BD v next)).alloc BZD);have HB0:Hid (Bw w W):=by show Bw w W;rw [hW];exact (qG _ _).alloc (by simp) _
 have HA0:Hid (W.heap[w.heap.size + 1]? = some BZD):=by
  have:=heap_alloc_new (w.alloc (BD v next)) BZD;rw [← hW] at this
  rwa [show (w.alloc (BD v next)).heap.size = w.heap.size + 1 by simp] at this
 have hws:w.heap.size + 1 < W.heap.size:=by rw [hW];simp
 obtain ⟨a0,a1⟩:W.cell? ⟨w.heap.size,0,none⟩ = some v/\W.cell? ⟨w.heap.size,1,none⟩ = some (.int .i64 next):=by
  have:=box_cells w v next;rw [hW];exact ⟨(cell_older (by simp) _ _).trans this.1,(cell_older (by simp) _ _).trans this.2⟩
 have HV:Hid (AtW EE W v l):=hv.up HB0.out;have HS:Hid (∀ x∈l,x.1.size<=maxLen):=hs;have HNN:Hid (s.size<=maxLen):=hn;have HCAP:Hid (v = .slice ao m cap/\AtW EE w v l):=⟨hvv,hv⟩;clear hv hs hn;rcases Fo.findErr_or l next s with ⟨k,x,he,hp,hxk,-,-,hr,-⟩ | ⟨hp,he⟩
 ·have HE:Hid (Fo.findErr l next s = 0):=he;have HP:Hid (Fo.plc l next s = k):=hp;have hk:=(qM hxk);rw [HLM.out] at hk;obtain ⟨bb,off,rfl,-,hB,-⟩:=hx k x hxk;have hcap:=(show At EE (fun _=>True) w (.slice (some ⟨bb,off,none⟩) m cap) l from by have:=HCAP.out;rw [← this.1];exact this.2).capd (by omega);unfold maxLen at hcap;have HRL:Hid (l.length<=1099511627776):=by
   have:=Fo.right_len hr;have:=hr.1.2;show l.length<=1099511627776;omega
  rw [HE.out,HP.out,if_pos rfl,if_pos rfl];obtain ⟨q1,c1,hs1⟩:∃ q c,sliced (some ⟨bb,off,none⟩) 0 k cap EE.sz = .slice q k c:=⟨_,_,rfl⟩;obtain ⟨q2,c2,hs2⟩:∃ q c,sliced (some ⟨bb,off,none⟩) (k + 1) m cap EE.sz = .slice q (m - (k + 1)) c:=⟨_,_,rfl⟩;have hsl1:∀ w',(Instr.slice 38 (.slice (some ⟨bb,off,none⟩) m cap) none (some (.int .i64 (k:Int))) none).run Tryz.prog w' = .ok (.slice q1 k c1) w':=fun w'=>by rw [run_cut_h w' _ m cap k (by omega),hs1]
  have hsl2:∀ w',(Instr.slice 38 (.slice (some ⟨bb,off,none⟩) m cap) (some (.int .i64 ((k:Int) + 1))) none none).run Tryz.prog w' = .ok (.slice q2 (m - (k + 1)) c2) w':=fun w'=>by rw [run_cut_l w' _ m cap k (by omega),hs2]
  have HCUT:Hid (∀ w',AtW EE w' (.slice (some ⟨bb,off,none⟩) m cap) l->AtW EE w' (.slice q1 k c1) (l.take k)/\AtW EE w' (.slice q2 (m - (k + 1)) c2) (l.drop (k + 1))):=fun w' h=>by
   have g1:=h.cut (lo:=0) (hi:=k) (Nat.zero_le _) (by omega);have g2:=h.cut (lo:=k + 1) (hi:=m) (by omega) (Nat.le_refl _);rw [hs1] at g1;rw [hs2,← HLM.out,List.take_length] at g2;rw [← HLM.out];exact ⟨by simpa using g1,g2⟩
  obtain ⟨n2,hn2⟩:=qE (m - (k + 1));rw [hn2] at hsl2 HCUT;have hle:l.length - (k + 1) + k<=l.length:=by have:=HLM.out;omega
  have HKL:Hid ((l.take k).length + (l.drop (k + 1)).length<=2199023255552):=by
   show (l.take k).length + (l.drop (k + 1)).length<=2199023255552;have:=HRL.out;simp only [List.length_take,List.length_drop];omega
  have k4:IntKind.i64.wrap ((k:Int) + 1) = (k:Int) + 1:=by rw [IntKind.wrap_i64];omega
  clear hs1 hs2 hn2 hcap hle;subst hvv;clear he hp hx hxk hr;go_enter Tryz.func194,Tryz.ntmps194;go_wp2_with fail;rw [← hW];refine (place_any _ l next s _ HV.out HS.out HNN.out).mono ?_;rintro e w1 ⟨rfl,hb⟩;rw [HE.out,HP.out];have HB1:=qJ HB0 hb;have HA1:=qK hb HA0;have HSS:Hid (Two w.heap.size (.slice (some ⟨bb,off,none⟩) m cap) next w1):=tw_step ⟨a0,a1⟩ hb;have HV1:Hid (AtW EE w1 (.slice (some ⟨bb,off,none⟩) m cap) l):=HV.out.up hb;have hs1:=hb.size;clear hb hW a0 a1;have HZ:Hid (∀ w5,Below (w1.alloc (.cells #[.slice q1 k c1,.slice q2 n2 c2] 38)).drew.heap.size (w1.alloc (.cells #[.slice q1 k c1,.slice q2 n2 c2] 38)).drew w5->w5.heap[w.heap.size + 1]? = some BZD):=fun w5 hb=>by
   have hl:=(qL HA1.out);rw [hb.block _ (by show _ < Array.size _;simp;omega)];exact (Below.heap_alloc _ _ _ hl).trans HA1.out
  have hne1:w.heap.size≠w.heap.size + 1:=by omega
  go_wp2_with fail
  go_region_held3 (fun w'=>w'.cell? ⟨w.heap.size,0,none⟩ = some (.slice (some ⟨bb,off,none⟩) m cap)/\w'.cell? ⟨w.heap.size,1,none⟩ = some (.int .i64 next)) (first | exact HSS.out | exact tw_drew HSS.out | exact tw_drew (tw_alloc HSS.out _) | exact tw_alloc HSS.out _ | exact tw_step (tw_drew (tw_alloc HSS.out _)) (by assumption) | exact tw_set (tw_set (tw_step (tw_drew (tw_alloc HSS.out _)) (by assumption)) hne1 _) hne1 _) (first
   | (go_at_call 206;refine (concat_rem w1 _ _ _ _ (HCUT.out _ HV1.out).1 (HCUT.out _ HV1.out).2 HKL.out).mono ?_;rintro e w5 ⟨u,rfl,hr,hb5⟩;obtain ⟨pu,nu,cu,rfl⟩:=hr.slice3;obtain ⟨⟨z0,z1⟩,zf⟩:=dir_of (HZ.out w5 hb5)))
  have HEND:Hid (At EE (fun b=>w1.heap.size<=b) w5 (.slice pu nu cu) (l.eraseIdx k)/\Bw w w5/\w.heap.size + 1 < w1.heap.size):=by
   have hl:=(qL HA1.out);have h:=hr.at.imp (T:=fun b=>w1.heap.size<=b) (fun b hb _=>by omega);rw [← List.eraseIdx_eq_take_drop_succ] at h;have h3:Bw w (w1.alloc (.cells #[.slice q1 k c1,.slice q2 n2 c2] 38)):=HB1.out.alloc (by omega) _;exact ⟨h,h3.trans ((undrew hb5).mono h3.size),hl⟩
  clear hr hb5 hsl1 hsl2;go_wp2
  (try simp only [Exit.inBlock,Exit.then])
  refine bodyPost_ret (v:=.tuple #[VD (.slice pu nu cu) next,.int .i64 0]) ?_ rfl ⟨.slice pu nu cu,rfl,?_,?_⟩
  ·rw [results_cell_tmp rfl]
   go_simp
  ·have hS:=HEND.out.2.2;rw [show ((k:Int)).toNat = k from by omega];refine At.imp (S:=fun b=>w1.heap.size<=b) ?_ (fun b hb _=>by omega)
   repeat (refine At.setCellF ?_ (by simp;omega) _)
   exact HEND.out.1
  ·repeat (refine Below.setCell ?_ (by simp) _)
   exact HEND.out.2.1
 ·obtain ⟨fe,hfe⟩:=qE (Fo.findErr l next s);have HE:Hid _:=hfe;have HP:Hid _:=hp;rw [hfe] at he;have hz:fe≠0:=by omega
  rw [HE.out,if_neg hz,if_neg hz];have hz':(fe == 0) = false:=beq_eq_false_iff_ne.2 hz;subst hvv;clear hfe hz he hx hp;go_enter Tryz.func194,Tryz.ntmps194;go_wp2_with fail;rw [← hW];refine (place_any _ l next s _ HV.out HS.out HNN.out).mono ?_;rintro e w1 ⟨rfl,hb⟩;rw [HE.out,HP.out];have HB1:=qJ HB0 hb;have HA1:Hid _:=(hb.block _ hws).trans HA0.out;obtain ⟨⟨z0,z1⟩,zf⟩:=dir_of HA1.out;clear hb hW a0 a1;go_wp2
  (try simp only [Exit.inBlock,Exit.then])
  refine bodyPost_ret (v:=.tuple #[VD (.slice none 0 0) 0,.int .i64 fe]) ?_ rfl ⟨.slice none 0 0,rfl,At.nil,?_⟩
  ·rw [results_cell_tmp rfl]
   go_simp
  ·repeat (refine Below.setCell ?_ (by simp) _)
   exact HB1.out
end
section
open Go.ChangeShapes Go.WideShapes Go.ChangeAt Go.RowKit Go.Deep It
theorem findOwn_any {S : Nat → Prop} (v : Value) (L : List Rw) (a b : Int) (w : World) (hv : TabAt S w v L) :
    Calls Tryz.prog 94 #[v,.agg #[.int .i64 a,.int .i64 b]] w fun e w'=>∃ x:Rw,e = .returned (.tuple #[VI x,.int .i64 (findErr (pl L) a b)])/\x.i = findI (pl L) a b/\Good (fun b=>w.heap.size<=b) w' x/\Bw w w':=by
  obtain ⟨W,hW⟩:=qF ((w.alloc (BH a b)).alloc BZ);have HB0:Hid (Bw w W):=by show Bw w W;rw [hW];exact (qG _ _).alloc (by simp) _
  have HA0:Hid (W.heap[w.heap.size]? = some (BH a b)/\W.heap[w.heap.size + 1]? = some BZ):=by
    rw [hW];refine ⟨(Below.heap_alloc _ _ _ (by simp)).trans (heap_alloc_new _ _),?_⟩;have:=heap_alloc_new (w.alloc (BH a b)) BZ
    rwa [show (w.alloc (BH a b)).heap.size = w.heap.size + 1 by simp] at this
  have hws:w.heap.size + 1 < W.heap.size:=by rw [hW];simp
  have HV:Hid (TabAt S W v L):=hv.up HB0.out;obtain ⟨⟨a0,a1⟩,_⟩:=two_of HA0.out.1;obtain ⟨ao,cap,rfl,_,_⟩:=hv.open;clear hv;obtain ⟨fe,hfe⟩:=qE (findErr (pl L) a b);have HFE:Hid (findErr (pl L) a b = fe):=hfe;rw [hfe]
  by_cases hz:fe = 0
  · rw [hz] at hfe HFE
    subst hz;obtain ⟨hr,hn⟩:=It.right_of_find hfe;obtain ⟨k,x,rfl,hxk,hg,hk,hkl⟩:=It.named hn;have HX:Hid (findI (pl L) k b = x.i):=by
      show findI (pl L) k b = x.i;unfold findI;rw [if_pos hfe,show ((k:Int)).toNat = k from by omega,It.pl_get hxk];rfl
    obtain ⟨m,hm⟩:=qE L.length;have hkI:(k:Int) < (m:Int):=by omega
    rw [hm] at HV ⊢;have HXK:Hid (L[k]? = some x):=hxk;clear hfe hr hn hxk hg hk hkl hm;go_enter Tryz.func94,Tryz.ntmps94;go_wp2_with fail;rw [← hW];refine (refuse_any _ L k b _ HV.out).mono ?_;rintro e w1 ⟨rfl,hb1⟩;rw [HFE.out];have HB1:Hid (Bw w w1):=HB0.out.trans (hb1.mono HB0.out.size);have HA1:Hid (w1.heap[w.heap.size]? = some (BH k b)/\w1.heap[w.heap.size + 1]? = some BZ):=⟨(hb1.block _ (by omega)).trans HA0.out.1,(hb1.block _ (by omega)).trans HA0.out.2⟩;have HV1:Hid (TabAt S w1 (.slice ao m cap) L):=HV.out.up hb1;have hws1:w.heap.size + 1 < w1.heap.size:=by have:=hb1.size;omega
    obtain ⟨⟨e0,e1⟩,_⟩:=two_of HA1.out.1;obtain ⟨ao',cap',hv',_,hx'⟩:=HV1.out.open;obtain ⟨⟨bb,off,hbo,hB,hc⟩,hgx⟩:=hx' k x HXK.out;simp only [Value.slice.injEq] at hv';obtain ⟨rfl,_,rfl⟩:=hv';subst hbo;obtain ⟨c0,c1,c2,c3,c4,c5,c6,c7⟩:=hc;have HGX:Hid (Good S w1 x):=hgx;clear hb1 hx' hgx hW a0 a1 HV HA0;go_wp2_with fail;refine (own_any x _ HGX.out).mono ?_;rintro e w2 ⟨y,rfl,hyi,hyg,hb2⟩;have HB2:Hid (Bw w w2):=HB1.out.trans (hb2.mono HB1.out.size);have HA2:Hid (w2.heap[w.heap.size + 1]? = some BZ):=(hb2.block _ hws1).trans HA1.out.2;have HY:Hid (y.i = findI (pl L) k b/\Good (fun b=>w1.heap.size<=b) w2 y):=⟨hyi.trans HX.out.symm,hyg⟩;have HS1:Hid (w.heap.size + 1 < w1.heap.size):=hws1;obtain ⟨⟨z0,z1,z2,z3,z4,z5,z6,z7⟩,zf⟩:=eight_of HA2.out;obtain ⟨⟨g,kk,l,s,t,rs,es,nx⟩,rp,rn,rc,ep,en,ec⟩:=y;clear hyi hyg hb2 e0 e1 c0 c1 c2 c3 c4 c5 c6 c7;go_wp2
    (try simp only [Exit.inBlock,Exit.then])
    refine bodyPost_ret (v:=.tuple #[.agg #[.int .i64 g,.int .i64 kk,.int .i64 l,.int .i64 s,.int .i64 t,.slice rp rn rc,.slice ep en ec,.int .i64 nx],.int .i64 0]) ?_ rfl ⟨⟨⟨g,kk,l,s,t,rs,es,nx⟩,rp,rn,rc,ep,en,ec⟩,rfl,HY.out.1,?_,?_⟩
    · rw [results_cell_tmp rfl]
      go_simp
    · have hS := HS1.out
      refine ⟨?_,?_,HY.out.2.2.2⟩
      · refine At.imp (S := fun b => w1.heap.size ≤ b) ?_ (fun b hb _ => by show w.heap.size ≤ b; have hb : w1.heap.size ≤ b := hb; omega)
        repeat (refine At.setCell ?_ (by simp;omega) _)
        exact HY.out.2.1
      · refine At.imp (S := fun b => w1.heap.size ≤ b) ?_ (fun b hb _ => by show w.heap.size ≤ b; have hb : w1.heap.size ≤ b := hb; omega)
        repeat (refine At.setCell ?_ (by simp;omega) _)
        exact HY.out.2.2.1
    · repeat (refine Below.setCell ?_ (by simp) _)
      exact HB2.out
  · have HX : Hid (findI (pl L) a b = zeroI) := by
      show findI (pl L) a b = zeroI;unfold findI;rw [if_neg (by rw [hfe];exact hz)]
    have hz':(fe == 0) = false:=by simp [hz]
    clear hz hfe;go_enter Tryz.func94,Tryz.ntmps94;go_wp2_with fail;rw [← hW];refine (refuse_any _ L a b _ HV.out).mono ?_;rintro e w1 ⟨rfl,hb1⟩;rw [HFE.out];have HB1:Hid (Bw w w1):=HB0.out.trans (hb1.mono HB0.out.size);have HA1:Hid (w1.heap[w.heap.size + 1]? = some BZ):=(hb1.block _ (by omega)).trans HA0.out.2;obtain ⟨⟨z0,z1,z2,z3,z4,z5,z6,z7⟩,zf⟩:=eight_of HA1.out;clear hb1 hW a0 a1;go_wp2
    (try simp only [Exit.inBlock,Exit.then])
    refine bodyPost_ret (v:=.tuple #[.agg #[.int .i64 0,.int .i64 0,.int .i64 0,.int .i64 0,.int .i64 0,.slice none 0 0,.slice none 0 0,.int .i64 0],.int .i64 fe]) ?_ rfl ⟨zeroR,rfl,HX.out.symm,good_zero _ _,?_⟩
    · rw [results_cell_tmp rfl]
      go_simp
    · repeat (refine Below.setCell ?_ (by simp) _)
      exact HB1.out
end
end Go.Proofs.YtneojimodomohaaGreat
