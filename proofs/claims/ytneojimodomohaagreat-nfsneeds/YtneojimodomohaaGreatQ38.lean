/- NLrg, KNeeds, NNd0, NfNeeds, as one. -/
import Derived.Test.YtneojimodomohaaGreatQ37
namespace Go.Proofs.YtneojimodomohaaGreat
open Go.ChangeShapes Go.WideShapes Go.ChangeAt Go.RowKit Go.Deep It
set_option maxRecDepth 100000
theorem run_cells {w:World} {ao:Option Addr} {cap:Nat} {l:List (Int × ByteArray)} {S:Nat->Prop} (h:At ER S w (.slice ao l.length cap) l) {k:Nat} {r:Int × ByteArray} (hk:l[k]? = some r):∃ b off,ao = some ⟨b,off,none⟩/\b < w.heap.size/\w.cell? ⟨b,off + k * 2,none⟩ = some (.int .i64 r.1)/\w.cell? ⟨b,off + k * 2 + 1,none⟩ = some (.string r.2):=by
  obtain ⟨ao',cap',he,-,hx⟩:=h.open
  injection he with h1 h2 h3
  subst h1
  obtain ⟨b,off,hb,-,hB,hc⟩:=hx k r hk
  exact ⟨b,off,hb,hB,hc 0 _ rfl,hc 1 _ rfl⟩
set_option maxHeartbeats 4000000 in
theorem nlarge_any {S : Nat → Prop} (vi : Value) (op : Option Addr) (on oc : Nat) (sp : Option Addr) (sn sc : Nat) (dn : Int) (L : List Rw) (w : World) (hv : TabAt S w vi L) :
    Calls Tryz.prog 9 #[VSt vi (.slice op on oc) (.slice sp sn sc) dn] w fun e w'=>(e = .returned (.bool false)∨e = .returned (.bool true))/\Below w.heap.size w w':=by
  have HV:Hid (TabAt S w vi L):=hv
  obtain ⟨ao,cap,rfl,hm,-⟩:=hv.open
  unfold maxLen at hm
  obtain ⟨n,hn⟩:∃ n,L.length = n:=⟨_,rfl⟩
  have HN:Hid (L.length = n):=hn
  rw [hn] at hm HV ⊢
  clear hv hn
  go_enter Tryz.func9,Tryz.ntmps9
  go_wp2_with fail
  obtain ⟨W,hW⟩:∃ W,W = w.alloc (BSt (.slice ao n cap) (.slice op on oc) (.slice sp sn sc) dn):=⟨_,rfl⟩
  have HBW:Hid (Below w.heap.size w W):=by show Below _ _ _;rw [hW];exact (Below.refl _ w).alloc (Nat.le_refl _) _
  have HA:Hid (W.heap[w.heap.size]? = some (BSt (.slice ao n cap) (.slice op on oc) (.slice sp sn sc) dn)):=by show _ = _;rw [hW];exact heap_alloc_new _ _
  have HVW:Hid (TabAt S W (.slice ao n cap) L):=HV.out.up HBW.out
  rw [← hW]
  clear hW HV
  go_loopw [3,14] (fun g i wr=>∃ (k:Nat) (q:Int),k<=n/\i = .int .i64 k/\g = .int .i64 q/\Hid (Below W.heap.size W wr)) (fun _ i _=>n - (intOf i).toNat)
  case atStart=>exact ⟨0,_,Nat.zero_le _,rfl,rfl,Below.refl _ _⟩
  case round =>
    obtain ⟨k,q,hk,rfl,rfl,HB⟩:=hrel
    have hsz:=HB.out.size
    by_cases hlt:k < n
    · obtain ⟨x, hxk⟩ : ∃ x, L[k]? = some x := ⟨_, List.getElem?_eq_getElem (by rw [HN.out]; exact hlt)⟩
      obtain ⟨⟨b,off,rfl,hB,hc⟩,-,-,-⟩:=tab_eight HVW.out hxk
      have HG:Hid (Good S W x):=HVW.out.2 x (List.mem_of_getElem? hxk)
      obtain ⟨rn,hrn⟩:∃ r,x.rn = r:=⟨_,rfl⟩
      have HRN:Hid (x.i.runs.length = rn):=HG.out.len.1.symm.trans hrn
      have hrm:rn<=5864062014805:=by have h:=HG.out.2.2.2.1;have h2:=HRN.out;omega
      have HAR:Hid (At ER S W (.slice x.rp x.i.runs.length x.rc) x.i.runs):=by have h:=HG.out.1;rw [HG.out.len.1] at h;exact h
      obtain ⟨c0,c1,c2,c3,c4,c5,c6,c7⟩:=hc.below HB.out hB
      have hlt':(k:Int) < (n:Int):=by omega
      rw [hrn] at c5
      obtain ⟨V,hV⟩:∃ V,V = wr.alloc (.cells #[.int .i64 x.i.gen,.int .i64 x.i.kind,.int .i64 x.i.links,.int .i64 x.i.size,.int .i64 x.i.stamp,.slice x.rp rn x.rc,.slice x.ep x.en x.ec,.int .i64 x.i.next] 58):=⟨_,rfl⟩
      have HBV:Hid (Below W.heap.size W V):=by show Below _ _ _;rw [hV];exact HB.out.alloc hsz _
      clear hc hxk hrn HG
      go_wp2_with fail
      rw [← hV]
      clear hV c0 c1 c2 c3 c4 c5 c6 c7
      go_loopw [3,30] (fun g i vr=>∃ (j:Nat) (p:Int),j<=rn/\i = .int .i64 j/\g = .int .i64 p/\Hid (Below W.heap.size W vr)) (fun _ i _=>rn - (intOf i).toNat)
      case atStart=>exact ⟨0,_,Nat.zero_le _,rfl,rfl,HBV.out⟩
      case round =>
        obtain ⟨j,p,hj,rfl,rfl,HBR⟩:=hrel
        have hsr:=HBR.out.size
        by_cases hjl:j < rn
        · obtain ⟨r, hr⟩ : ∃ r, x.i.runs[j]? = some r := ⟨_, List.getElem?_eq_getElem (by rw [HRN.out]; exact hjl)⟩
          obtain ⟨b2,off2,hrp,hB2,d0,d1⟩:=run_cells HAR.out hr
          rw [hrp]
          rw [← HBR.out.cell (p:=⟨b2,off2 + j * 2,none⟩) hB2] at d0
          rw [← HBR.out.cell (p:=⟨b2,off2 + j * 2 + 1,none⟩) hB2] at d1
          have hjl':(j:Int) < (rn:Int):=by omega
          clear hr hrp
          go_wp2
          go_roundw
          case rel=>exact ⟨j + 1,_,by omega,by go_num,rfl,HBR.out.alloc hsr _⟩
          case measure=>simp [intOf];omega
        · obtain rfl : j = rn := by omega
          go_wp2
          go_roundw
          case rel=>exact ⟨k + 1,_,by omega,by go_num,rfl,HBR.out⟩
          case measure=>simp [intOf];omega
    · obtain rfl : k = n := by omega
      obtain ⟨t0,t1,t2,t3⟩:=st_of ((HB.out.block _ (Array.getElem?_eq_some_iff.1 HA.out).1).trans HA.out)
      have HF:Hid (Below w.heap.size w wr):=HBW.out.trans (HB.out.mono HBW.out.size)
      by_cases h12:12000 < q
      · have hb12 : decide (12000 < q) = true := by simpa using h12
        go_wp2
        all_goals
          go_ret
          first | exact ⟨.inl rfl,HF.out⟩ | exact ⟨.inr rfl,HF.out⟩
      · have hb12 : decide (12000 < q) = false := by simpa using h12
        by_cases h100:(100:Int) < (k:Int)
        all_goals
          go_wp2
          all_goals
            go_ret
            first | exact ⟨.inl rfl,HF.out⟩ | exact ⟨.inr rfl,HF.out⟩
end Go.Proofs.YtneojimodomohaaGreat
namespace Go.Proofs.YtneojimodomohaaGreat.Ks
open Go.ChangeShapes Go.WideShapes Go.ChangeAt Go.RowKit Go.Deep
set_option maxRecDepth 100000
open Ak
/-- The value v stands for the list l of ints. -/
def IntsAt (w : World) (v : Value) (l : List Int) : Prop :=
  (∃ ao cap,v = .slice ao 0 cap/\l = []) ∨
  (∃ b off cap,v = .slice (some ⟨b,off,none⟩) l.length cap/\b < w.heap.size/\0 < l.length/\l.length<=cap/\cap<=maxLen /\
    ∀ i,i < l.length->w.cell? ⟨b,off + i,none⟩ = some (.int .i64 (l.getD i 0)))
theorem IntsAt.up {w w':World} {v:Value} {l:List Int} (h:IntsAt w v l) (hb:Below w.heap.size w w'):IntsAt w' v l:=by
  rcases h with h | ⟨b,off,cap,rfl,hB,hp,hc,hm,hx⟩
  · exact .inl h
  · exact .inr ⟨b,off,cap,rfl,Nat.lt_of_lt_of_le hB hb.size,hp,hc,hm,fun i hi=>(hb.cell (p:=⟨b,off + i,none⟩) hB).trans (hx i hi)⟩
theorem lits (w:World) (l:List Int) (h0:0 < l.length) (h1:l.length<=100):IntsAt (w.alloc (.cells (l.map (Value.int .i64)).toArray 3)) (.slice (some ⟨w.heap.size,0,none⟩) l.length l.length) l:=by
  refine .inr ⟨w.heap.size,0,l.length,rfl,by simp,h0,Nat.le_refl _,by unfold maxLen;omega,fun i hi=>?_⟩
  have hh:=heap_alloc_new w (.cells (l.map (Value.int .i64)).toArray 3)
  simp only [World.cell?,hh,Nat.zero_add]
  simp [List.getD,hi]
def Ak.needs (k:Int):List Int :=
  if k = 1∨k = 3∨k = 4∨k = 9∨k = 10 then [2,4] else if k = 2∨k = 13 then [2] else if k = 5∨k = 12 then [2,6,7] else if k = 6 then [2,6,8] else if k = 7 then [2,6]
  else if k = 8 then [2,3,4] else if k = 11 then [2,3,4,5] else if k = 14 then [7] else []
def Ak.needsErr (k:Int):Int:=if 1<=k/\k<=14 then 0 else 1
set_option maxHeartbeats 4000000 in
theorem needs_any (k:Int) (w:World):Calls Tryz.prog 19 #[.int .i64 k] w fun e w'=>∃ v,e = .returned (.tuple #[v,.int .i64 (Ak.needsErr k)])/\IntsAt w' v (Ak.needs k)/\Below w.heap.size w w':=by
  by_cases h1:k = 1
  · subst h1
    go_enter Tryz.func19,Tryz.ntmps19
    go_wp2
    go_ret2
    exact ⟨_,rfl,lits w [2,4] (by decide) (by decide),(Below.refl _ _).alloc (Nat.le_refl _) _⟩
  by_cases h2:k = 2
  · subst h2
    go_enter Tryz.func19,Tryz.ntmps19
    go_wp2
    go_ret2
    exact ⟨_,rfl,lits w [2] (by decide) (by decide),(Below.refl _ _).alloc (Nat.le_refl _) _⟩
  by_cases h3:k = 3
  · subst h3
    go_enter Tryz.func19,Tryz.ntmps19
    go_wp2
    go_ret2
    exact ⟨_,rfl,lits w [2,4] (by decide) (by decide),(Below.refl _ _).alloc (Nat.le_refl _) _⟩
  by_cases h4:k = 4
  · subst h4
    go_enter Tryz.func19,Tryz.ntmps19
    go_wp2
    go_ret2
    exact ⟨_,rfl,lits w [2,4] (by decide) (by decide),(Below.refl _ _).alloc (Nat.le_refl _) _⟩
  by_cases h5:k = 5
  · subst h5
    go_enter Tryz.func19,Tryz.ntmps19
    go_wp2
    go_ret2
    exact ⟨_,rfl,lits w [2,6,7] (by decide) (by decide),(Below.refl _ _).alloc (Nat.le_refl _) _⟩
  by_cases h6:k = 6
  · subst h6
    go_enter Tryz.func19,Tryz.ntmps19
    go_wp2
    go_ret2
    exact ⟨_,rfl,lits w [2,6,8] (by decide) (by decide),(Below.refl _ _).alloc (Nat.le_refl _) _⟩
  by_cases h7:k = 7
  · subst h7
    go_enter Tryz.func19,Tryz.ntmps19
    go_wp2
    go_ret2
    exact ⟨_,rfl,lits w [2,6] (by decide) (by decide),(Below.refl _ _).alloc (Nat.le_refl _) _⟩
  by_cases h8:k = 8
  · subst h8
    go_enter Tryz.func19,Tryz.ntmps19
    go_wp2
    go_ret2
    exact ⟨_,rfl,lits w [2,3,4] (by decide) (by decide),(Below.refl _ _).alloc (Nat.le_refl _) _⟩
  by_cases h9:k = 9
  · subst h9
    go_enter Tryz.func19,Tryz.ntmps19
    go_wp2
    go_ret2
    exact ⟨_,rfl,lits w [2,4] (by decide) (by decide),(Below.refl _ _).alloc (Nat.le_refl _) _⟩
  by_cases h10:k = 10
  · subst h10
    go_enter Tryz.func19,Tryz.ntmps19
    go_wp2
    go_ret2
    exact ⟨_,rfl,lits w [2,4] (by decide) (by decide),(Below.refl _ _).alloc (Nat.le_refl _) _⟩
  by_cases h11:k = 11
  · subst h11
    go_enter Tryz.func19,Tryz.ntmps19
    go_wp2
    go_ret2
    exact ⟨_,rfl,lits w [2,3,4,5] (by decide) (by decide),(Below.refl _ _).alloc (Nat.le_refl _) _⟩
  by_cases h12:k = 12
  · subst h12
    go_enter Tryz.func19,Tryz.ntmps19
    go_wp2
    go_ret2
    exact ⟨_,rfl,lits w [2,6,7] (by decide) (by decide),(Below.refl _ _).alloc (Nat.le_refl _) _⟩
  by_cases h13:k = 13
  · subst h13
    go_enter Tryz.func19,Tryz.ntmps19
    go_wp2
    go_ret2
    exact ⟨_,rfl,lits w [2] (by decide) (by decide),(Below.refl _ _).alloc (Nat.le_refl _) _⟩
  by_cases h14:k = 14
  · subst h14
    go_enter Tryz.func19,Tryz.ntmps19
    go_wp2
    go_ret2
    exact ⟨_,rfl,lits w [7] (by decide) (by decide),(Below.refl _ _).alloc (Nat.le_refl _) _⟩
  have HE:Hid (Ak.needsErr k = 1):=by show Ak.needsErr k = 1;unfold Ak.needsErr;rw [if_neg (by omega)]
  have HL:Hid (Ak.needs k = []):=by
    show Ak.needs k = []
    unfold Ak.needs
    rw [if_neg (by omega),if_neg (by omega),if_neg (by omega),if_neg (by omega),if_neg (by omega),if_neg (by omega),if_neg (by omega),if_neg (by omega)]
  rw [HE.out,HL.out]
  have e1:(k == 1) = false:=by simpa using h1
  have e2:(k == 2) = false:=by simpa using h2
  have e3:(k == 3) = false:=by simpa using h3
  have e4:(k == 4) = false:=by simpa using h4
  have e5:(k == 5) = false:=by simpa using h5
  have e6:(k == 6) = false:=by simpa using h6
  have e7:(k == 7) = false:=by simpa using h7
  have e8:(k == 8) = false:=by simpa using h8
  have e9:(k == 9) = false:=by simpa using h9
  have e10:(k == 10) = false:=by simpa using h10
  have e11:(k == 11) = false:=by simpa using h11
  have e12:(k == 12) = false:=by simpa using h12
  have e13:(k == 13) = false:=by simpa using h13
  have e14:(k == 14) = false:=by simpa using h14
  clear h1 h2 h3 h4 h5 h6 h7 h8 h9 h10 h11 h12 h13 h14
  go_enter Tryz.func19,Tryz.ntmps19
  go_wp2
  go_ret2
  exact ⟨_,rfl,.inl ⟨_,_,rfl,rfl⟩,Below.refl _ _⟩
end Go.Proofs.YtneojimodomohaaGreat.Ks
namespace Go.Proofs.YtneojimodomohaaGreat
open It
set_option maxRecDepth 100000
namespace Nf
/-- A call with one field more of c. -/
def withTag (c d:Cal) (t:Int):Cal :=
  if t = 2 then { d with no:=c.no,gen:=c.gen } else if t = 3 then { d with no2:=c.no2,gen2:=c.gen2 } else if t = 4 then { d with nm:=c.nm } else if t = 5 then { d with nm2:=c.nm2 }
  else if t = 6 then { d with pl:=c.pl } else if t = 7 then { d with n:=c.n } else if t = 8 then { d with data:=c.data } else d
def bare (c:Cal):Cal:=⟨c.k,0,0,0,0,e0,e0,0,0,e0⟩
def only (c:Cal) (l:List Int):Cal:=l.foldl (withTag c) (bare c)
theorem only_take {c:Cal} {l:List Int} {k:Nat} (h:k < l.length):only c (l.take (k + 1)) = withTag c (only c (l.take k)) (l.getD k 0):=by
  unfold only
  rw [List.take_succ_eq_append_getElem h,List.foldl_append]
  simp [List.getD,h]
theorem withTag_right {c d : Cal} {t : Int} (hc : Ks.Ak.rightP c) (hd : Ks.Ak.rightP d) : Ks.Ak.rightP (withTag c d t) := by
  obtain ⟨a1,a2,a3,a4,a5,a6,a7,a8⟩:=hc
  obtain ⟨b1,b2,b3,b4,b5,b6,b7,b8⟩:=hd
  unfold withTag
  split
  · exact ⟨b1,a2,b3,b4,b5,b6,b7,b8⟩
  · split
    · exact ⟨b1,b2,a3,b4,b5,b6,b7,b8⟩
    · split
      · exact ⟨b1,b2,b3,a4,b5,b6,b7,b8⟩
      · split
        · exact ⟨b1,b2,b3,b4,a5,b6,b7,b8⟩
        · split
          · exact ⟨b1,b2,b3,b4,b5,a6,b7,b8⟩
          · split
            · exact ⟨b1,b2,b3,b4,b5,b6,a7,b8⟩
            · split
              · exact ⟨b1,b2,b3,b4,b5,b6,b7,a8⟩
              · exact ⟨b1,b2,b3,b4,b5,b6,b7,b8⟩
theorem only_right {c:Cal} (hc:Ks.Ak.rightP c):∀ (l:List Int) (d:Cal),Ks.Ak.rightP d->Ks.Ak.rightP (l.foldl (withTag c) d)
  | [],_,hd=>hd
  | _ :: l,_,hd=>only_right hc l _ (withTag_right hc hd)
theorem bare_right {c:Cal} (hc:Ks.Ak.rightP c):Ks.Ak.rightP (bare c):=by
  exact ⟨hc.1,(by decide:Ks.Ak.hokP 0 0),(by decide:Ks.Ak.hokP 0 0),(by decide:e0.size<=255),(by decide:e0.size<=255),(by decide:(0:Int)<=0/\(0:Int)<=4294967295),(by decide:(0:Int)<=0/\(0:Int)<=65535),(by decide:e0.size<=1024)⟩
theorem only_same {c:Cal} (hc:Ks.Ak.rightP c) (L:List Ino) (O:List Os.Opn) (dn cl:Int) :
    rep L O dn cl (only c (Ks.Ak.needs c.k)) = rep L O dn cl c/\tab L O dn cl (only c (Ks.Ak.needs c.k)) = tab L O dn cl c/\ops L O cl (only c (Ks.Ak.needs c.k)) = ops L O cl c:=by
  have hk:=hc.1
  have hc:c.k = 1∨c.k = 2∨c.k = 3∨c.k = 4∨c.k = 5∨c.k = 6∨c.k = 7∨c.k = 8∨c.k = 9∨c.k = 10∨c.k = 11∨c.k = 12∨c.k = 13∨c.k = 14:=by omega
  rcases hc with h | h | h | h | h | h | h | h | h | h | h | h | h | h
  all_goals
    rw [h]
    refine ⟨?_,?_,?_⟩
    · simp [rep, only, Ks.Ak.needs, withTag, bare, h]
      try rfl
    · simp [tab, only, Ks.Ak.needs, withTag, bare, h]
      try rfl
    · simp [ops, only, Ks.Ak.needs, withTag, bare, h]
      try rfl
/-- With all else left out, a call does the same. -/
theorem needs_same {c:Cal} (hc:Ks.Ak.right c = true) (L:List Ino) (O:List Os.Opn) (dn cl:Int) :
    doR L O dn cl (only c (Ks.Ak.needs c.k)) = doR L O dn cl c/\doT L O dn cl (only c (Ks.Ak.needs c.k)) = doT L O dn cl c/\doO L O dn cl (only c (Ks.Ak.needs c.k)) = doO L O dn cl c:=by
  have hp:=Ks.Ak.right_iff.1 hc
  have hr:Ks.Ak.right (only c (Ks.Ak.needs c.k)) = true:=Ks.Ak.right_iff.2 (only_right hp _ _ (bare_right hp))
  unfold doR doT doO
  by_cases h:refE L O dn cl = 0
  · obtain ⟨h1, h2, h3⟩ := only_same hp L O (dn + 1) cl
    rw [if_pos h,if_pos h,if_pos h,if_pos h,if_pos h,if_pos h,if_pos hc,if_pos hc,if_pos hc,if_pos hr,if_pos hr,if_pos hr]
    exact ⟨h1,h2,h3⟩
  · rw [if_neg h, if_neg h, if_neg h, if_neg h, if_neg h, if_neg h]
    exact ⟨rfl,rfl,rfl⟩
end Nf
end Go.Proofs.YtneojimodomohaaGreat
namespace Go.Proofs.YtneojimodomohaaGreat
open Go.ChangeShapes Go.WideShapes Go.ChangeAt Go.RowKit Go.Deep It
set_option maxRecDepth 100000
abbrev VD1 (cl:Int) (c:Cal):Value:=.agg #[.int .i64 cl,.int .i64 c.k,.int .i64 c.no,.int .i64 c.gen,.int .i64 c.no2,.int .i64 c.gen2,.string c.nm,.string c.nm2,.int .i64 c.pl,.int .i64 c.n,.string c.data]
abbrev BD1 (cl:Int) (c:Cal):Obj:=.cells #[.int .i64 cl,.int .i64 c.k,.int .i64 c.no,.int .i64 c.gen,.int .i64 c.no2,.int .i64 c.gen2,.string c.nm,.string c.nm2,.int .i64 c.pl,.int .i64 c.n,.string c.data] 32
theorem do_of {w:World} {A:Nat} {cl:Int} {c:Cal} (h:w.heap[A]? = some (BD1 cl c)) :
  w.cell? ⟨A,0,none⟩ = some (.int .i64 cl)/\w.cell? ⟨A,1,none⟩ = some (.int .i64 c.k)/\w.cell? ⟨A,2,none⟩ = some (.int .i64 c.no)/\w.cell? ⟨A,3,none⟩ = some (.int .i64 c.gen)/\w.cell? ⟨A,4,none⟩ = some (.int .i64 c.no2)/\w.cell? ⟨A,5,none⟩ = some (.int .i64 c.gen2)/\w.cell? ⟨A,6,none⟩ = some (.string c.nm)/\w.cell? ⟨A,7,none⟩ = some (.string c.nm2)/\w.cell? ⟨A,8,none⟩ = some (.int .i64 c.pl)/\w.cell? ⟨A,9,none⟩ = some (.int .i64 c.n)/\w.cell? ⟨A,10,none⟩ = some (.string c.data):=by
 refine ⟨?_,?_,?_,?_,?_,?_,?_,?_,?_,?_,?_⟩ <;> simp [World.cell?,h]
theorem ints_at {w:World} {v:Value} {l:List Int} (h:Ks.IntsAt w v l) (h0:0 < l.length):∃ b off cap,v = .slice (some ⟨b,off,none⟩) l.length cap/\b < w.heap.size/\∀ i,i < l.length->w.cell? ⟨b,off + i,none⟩ = some (.int .i64 (l.getD i 0)):=by
 rcases h with ⟨ao,cap,rfl,rfl⟩ | ⟨b,off,cap,h1,h2,-,-,-,h3⟩
 ·simp at h0
 ·exact ⟨b,off,cap,h1,h2,h3⟩
theorem Nf.need_in {k:Int} (h:1<=k/\k<=14):0 < (Ks.Ak.needs k).length/\(Ks.Ak.needs k).length<=10/\∀ i,i < (Ks.Ak.needs k).length->(Ks.Ak.needs k).getD i 0 = 2∨(Ks.Ak.needs k).getD i 0 = 3∨(Ks.Ak.needs k).getD i 0 = 4∨(Ks.Ak.needs k).getD i 0 = 5∨(Ks.Ak.needs k).getD i 0 = 6∨(Ks.Ak.needs k).getD i 0 = 7∨(Ks.Ak.needs k).getD i 0 = 8:=by
 have hc:k = 1∨k = 2∨k = 3∨k = 4∨k = 5∨k = 6∨k = 7∨k = 8∨k = 9∨k = 10∨k = 11∨k = 12∨k = 13∨k = 14:=by omega
 rcases hc with rfl | rfl | rfl | rfl | rfl | rfl | rfl | rfl | rfl | rfl | rfl | rfl | rfl | rfl <;> decide
set_option linter.unusedSimpArgs false in
set_option maxHeartbeats 8000000 in
theorem nneeds_any (vi vo : Value) (sp : Option Addr) (sn sc : Nat) (dn cl : Int) (c : Cal) (L : List Rw) (O : List Os.Opn) (Z : List Es.Sea) (w : World) (hv : TabW w vi L) (hok : Sp.okN L) (ho : AtW Os.EO w vo O) (hz : AtW Es.ES w (.slice sp sn sc) Z) (hf : fits c) :
  Calls Tryz.prog 8 #[VSt vi vo (.slice sp sn sc) dn,VD1 cl c] w fun e w'=>e = .returned (.bool true)/\Below w.heap.size w w':=by
 obtain ⟨ai,ci,hvi,-,-⟩:=hv.open
 obtain ⟨ni,hni⟩:∃ n,L.length = n:=⟨_,rfl⟩
 rw [hni] at hvi
 subst hvi
 obtain ⟨ao,co,hvo,-,-⟩:=ho.open
 obtain ⟨no,hno⟩:∃ n,O.length = n:=⟨_,rfl⟩
 rw [hno] at hvo
 subst hvo
 obtain ⟨W,hW⟩:∃ W,W = (w.alloc (BSt (.slice ai ni ci) (.slice ao no co) (.slice sp sn sc) dn)).alloc (BD1 cl c):=⟨_,rfl⟩
 have HB0:Hid (Below w.heap.size w W):=by show Below _ _ _;rw [hW];exact two_st w _ _
 have H0:Hid (W.heap[w.heap.size]? = some (BSt (.slice ai ni ci) (.slice ao no co) (.slice sp sn sc) dn)):=by show _ = _;rw [hW];exact (Below.heap_alloc _ _ _ (by simp)).trans (heap_alloc_new _ _)
 have H1:Hid (W.heap[w.heap.size + 1]? = some (BD1 cl c)):=by show _ = _;rw [hW];have h:=heap_alloc_new (w.alloc (BSt (.slice ai ni ci) (.slice ao no co) (.slice sp sn sc) dn)) (BD1 cl c);simpa using h
 have HV:Hid (TabAt (fun b=>b < w.heap.size) w (.slice ai ni ci) L):=hv.imp (fun _ _ hl=>hl)
 have HO:Hid (At Os.EO (fun b=>b < w.heap.size) w (.slice ao no co) O):=ho.imp (fun _ _ hl=>hl)
 have HZ:Hid (At Es.ES (fun b=>b < w.heap.size) w (.slice sp sn sc) Z):=hz.imp (fun _ _ hl=>hl)
 have HOK:Hid (Sp.okN L):=hok
 have HF:Hid (fits c):=hf
 obtain ⟨n0,h0⟩:∃ n,w.heap.size = n:=⟨_,rfl⟩
 obtain ⟨n1,h1⟩:∃ n,w.heap.size + 1 = n:=⟨_,rfl⟩
 have HE0:Hid (w.heap.size = n0):=h0
 have HE1:Hid (w.heap.size + 1 = n1):=h1
 have l0:n0 < W.heap.size:=by rw [← h0];exact (qL H0.out)
 have l1:n1 < W.heap.size:=by rw [← h1];exact (qL H1.out)
 have l01:n0 < n1:=by omega
 rw [h0] at H0
 rw [h1] at H1
 clear hv ho hz hok hf hni hno h0 h1
 go_enter Tryz.func8,Tryz.ntmps8
 go_wp2_with fail
 rw [← hW,HE1.out,HE0.out]
 clear hW
 refine (Ks.needs_any c.k W).mono ?_
 rintro e w1 ⟨v,rfl,hi,hb1⟩
 have HB1:Hid (Below w.heap.size w w1):=HB0.out.trans (hb1.mono HB0.out.size)
 have G0:Hid (w1.heap[n0]? = some (BSt (.slice ai ni ci) (.slice ao no co) (.slice sp sn sc) dn)):=(hb1.block _ l0).trans H0.out
 have G1:Hid (w1.heap[n1]? = some (BD1 cl c)):=(hb1.block _ l1).trans H1.out
 have HI:Hid (Ks.IntsAt w1 v (Ks.Ak.needs c.k)):=hi
 obtain ⟨ne,hne⟩:∃ ne,Ks.Ak.needsErr c.k = ne:=⟨_,rfl⟩
 have HNE:Hid (Ks.Ak.needsErr c.k = ne):=hne
 rw [hne]
 clear hb1 hi hne HB0 H0 H1 l0 l1
 obtain ⟨t0,t1,t2,t3⟩:=st_of G0.out
 obtain ⟨k0,k1,k2,k3,k4,k5,k6,k7,k8,k9,k10⟩:=do_of G1.out
 have HEND:Hid (∀ V,Below w.heap.size w V->Calls Tryz.prog 10 #[] V fun e w'=>e = .returned (.bool true)/\Below w.heap.size w w'):=fun V h=>(orphan_any V).mono (fun e w' ⟨h1,h2⟩=>⟨h1,h.trans (h2.mono h.size)⟩)
 by_cases hn0:ne = 0
 ·subst hn0
  have hkr:1<=c.k/\c.k<=14:=by
   have h:=HNE.out
   unfold Ks.Ak.needsErr at h
   by_cases hk:1<=c.k/\c.k<=14
   ·exact hk
   ·rw [if_neg hk] at h
    exact absurd h (by decide)
  have HKR:Hid (1<=c.k/\c.k<=14):=hkr
  clear hkr
  go_wp2_with fail
  refine (nlarge_any (.slice ai ni ci) ao no co sp sn sc dn L w1 (HV.out.up HB1.out)).mono ?_
  rintro e w2 ⟨he,hb2⟩
  have HB2:Hid (Below w.heap.size w w2):=HB1.out.trans (hb2.mono HB1.out.size)
  have HI2:Hid (Ks.IntsAt w2 v (Ks.Ak.needs c.k)):=HI.out.up hb2
  have K0:Hid (w2.heap[n0]? = some (BSt (.slice ai ni ci) (.slice ao no co) (.slice sp sn sc) dn)):=(hb2.block _ (qL G0.out)).trans G0.out
  have K1:Hid (w2.heap[n1]? = some (BD1 cl c)):=(hb2.block _ (qL G1.out)).trans G1.out
  clear hb2 HB1 HI G0 G1 t0 t1 t2 t3 k0 k1 k2 k3 k4 k5 k6 k7 k8 k9 k10
  obtain ⟨t0,t1,t2,t3⟩:=st_of K0.out
  obtain ⟨k0,k1,k2,k3,k4,k5,k6,k7,k8,k9,k10⟩:=do_of K1.out
  rcases he with rfl | rfl
  ·go_wp2_with fail
   obtain ⟨ce,hce⟩:∃ ce:Int,(if Ks.Ak.right c = true then (0:Int) else 413) = ce:=⟨_,rfl⟩
   refine (Ks.check_is c w2 ce hce).mono ?_
   rintro e w3 ⟨rfl,hb3⟩
   have HB3:Hid (Below w.heap.size w w3):=HB2.out.trans (hb3.mono HB2.out.size)
   have HI3:Hid (Ks.IntsAt w3 v (Ks.Ak.needs c.k)):=HI2.out.up hb3
   have J0:Hid (w3.heap[n0]? = some (BSt (.slice ai ni ci) (.slice ao no co) (.slice sp sn sc) dn)):=(hb3.block _ (qL K0.out)).trans K0.out
   have J1:Hid (w3.heap[n1]? = some (BD1 cl c)):=(hb3.block _ (qL K1.out)).trans K1.out
   clear hb3 HB2 HI2 K0 K1 t0 t1 t2 t3 k0 k1 k2 k3 k4 k5 k6 k7 k8 k9 k10
   by_cases hr:Ks.Ak.right c = true
   ·rw [if_pos hr] at hce
    subst hce
    have HRC:Hid (Ks.Ak.right c = true):=hr
    obtain ⟨t0,t1,t2,t3⟩:=st_of J0.out
    obtain ⟨k0,k1,k2,k3,k4,k5,k6,k7,k8,k9,k10⟩:=do_of J1.out
    clear hr
    obtain ⟨hl0,hl10,htags⟩:=Nf.need_in HKR.out
    obtain ⟨b,off,cap,hvv,hbl,hcell⟩:=ints_at HI3.out hl0
    obtain ⟨nn,hnn⟩:∃ n,(Ks.Ak.needs c.k).length = n:=⟨_,rfl⟩
    have HNN:Hid ((Ks.Ak.needs c.k).length = nn):=hnn
    rw [hnn] at hvv hl0 hl10 htags hcell
    subst hvv
    have HTS:Hid (∀ i,i < nn->(Ks.Ak.needs c.k).getD i 0 = 2∨(Ks.Ak.needs c.k).getD i 0 = 3∨(Ks.Ak.needs c.k).getD i 0 = 4∨(Ks.Ak.needs c.k).getD i 0 = 5∨(Ks.Ak.needs c.k).getD i 0 = 6∨(Ks.Ak.needs c.k).getD i 0 = 7∨(Ks.Ak.needs c.k).getD i 0 = 8):=htags
    have HCL:Hid (∀ i,i < nn->w3.cell? ⟨b,off + i,none⟩ = some (.int .i64 ((Ks.Ak.needs c.k).getD i 0))):=hcell
    obtain ⟨V,hV⟩:∃ V,V = w3.alloc (.cells #[.int .i64 c.k,.int .i64 0,.int .i64 0,.int .i64 0,.int .i64 0,.string ⟨#[]⟩,.string ⟨#[]⟩,.int .i64 0,.int .i64 0,.string ⟨#[]⟩] 30):=⟨_,rfl⟩
    obtain ⟨n7,h7⟩:∃ n,w3.heap.size = n:=⟨_,rfl⟩
    have HE7:Hid (w3.heap.size = n7):=h7
    have hbv:Below w3.heap.size w3 V:=by rw [hV];exact (Below.refl _ _).alloc (Nat.le_refl _) _
    have HBV:Hid (Below w.heap.size w V):=HB3.out.trans (hbv.mono HB3.out.size)
    have HVN:Hid (V.heap[n7]? = some (Ks.BC (Nf.bare c))):=by show _ = _;rw [hV,← h7];exact heap_alloc_new _ _
    have L0:Hid (V.heap[n0]? = some (BSt (.slice ai ni ci) (.slice ao no co) (.slice sp sn sc) dn)):=(hbv.block _ (qL J0.out)).trans J0.out
    have L1:Hid (V.heap[n1]? = some (BD1 cl c)):=(hbv.block _ (qL J1.out)).trans J1.out
    have HCV:Hid (∀ i,i < nn->V.cell? ⟨b,off + i,none⟩ = some (.int .i64 ((Ks.Ak.needs c.k).getD i 0))):=fun i hi=>(hbv.cell (p:=⟨b,off + i,none⟩) hbl).trans (HCL.out i hi)
    have hb7:b < n7:=by rw [← h7];exact hbl
    have h17:n1 < n7:=by rw [← h7];exact (qL J1.out)
    have hVs:n7 < V.heap.size:=(qL HVN.out)
    clear hnn htags hcell hbl HI3 hbv h7
    go_wp2_with fail
    rw [← hV,HE7.out]
    clear hV J0 J1 HCL t0 t1 t2 t3 k0 k1 k2 k3 k4 k5 k6 k7 k8 k9 k10
    go_loopw [40] (fun i wr=>∃ k:Nat,k<=nn/\i = .int .i64 k/\Hid (wr.heap[n7]? = some (Ks.BC (Nf.only c ((Ks.Ak.needs c.k).take k))))/\Hid (V.grownBy wr (some n7))) (fun i _=>nn - (intOf i).toNat)
    case atStart=>exact ⟨0,Nat.zero_le _,rfl,HVN.out,grown_refl _ _⟩
    case round =>
     obtain ⟨k,hk,rfl,HBX,HGR⟩:=hrel
     have hws:=HGR.out.size
     have M1:Hid (wr.heap[n1]? = some (BD1 cl c)):=(HGR.out.block _ (qL L1.out) (by simp;omega)).trans L1.out
     by_cases hlt:k < nn
     ·have hlt':(k:Int) < (nn:Int):=by omega
      have c0:wr.cell? ⟨b,off + k,none⟩ = some (.int .i64 ((Ks.Ak.needs c.k).getD k 0)):=(cell_block (HGR.out.block _ (by show b < _;omega) (by simp;omega))).trans (HCV.out k hlt)
      have ht:=HTS.out k hlt
      obtain ⟨tg,htg⟩:∃ tg,(Ks.Ak.needs c.k).getD k 0 = tg:=⟨_,rfl⟩
      have HTG:Hid ((Ks.Ak.needs c.k).getD k 0 = tg):=htg
      rw [htg] at c0 ht
      clear htg
      obtain ⟨k0,k1,k2,k3,k4,k5,k6,k7,k8,k9,k10⟩:=do_of M1.out
      obtain ⟨x0,x1,x2,x3,x4,x5,x6,x7,x8,x9⟩:=Ks.ten_of HBX.out
      have xf:=fr_at HBX.out
      rcases ht with ht | ht | ht | ht | ht | ht | ht
      ·have htag:tg = 2:=ht
       subst htag
       go_wp2
       go_roundw
       case rel =>
        have hnew:((wr.setCell ⟨n7,1,none⟩ (.int .i64 c.no)).setCell ⟨n7,2,none⟩ (.int .i64 c.gen)).heap[n7]? = some (Ks.BC (Nf.only c ((Ks.Ak.needs c.k).take (k + 1)))):=by
         have h4:=(set_at (set_at HBX.out 1 (.int .i64 c.no)) 2 (.int .i64 c.gen))
         rw [Nf.only_take (by rw [HNN.out];exact hlt),HTG.out]
         simpa [Nf.withTag] using h4
        exact ⟨k + 1,by omega,by go_num,hnew,(gr_set (gr_set HGR.out (.inr rfl) (.int .i64 c.no)) (.inr rfl) (.int .i64 c.gen))⟩
       case measure=>simp [intOf];omega
      ·have htag:tg = 3:=ht
       subst htag
       go_wp2
       go_roundw
       case rel =>
        have hnew:((wr.setCell ⟨n7,3,none⟩ (.int .i64 c.no2)).setCell ⟨n7,4,none⟩ (.int .i64 c.gen2)).heap[n7]? = some (Ks.BC (Nf.only c ((Ks.Ak.needs c.k).take (k + 1)))):=by
         have h4:=(set_at (set_at HBX.out 3 (.int .i64 c.no2)) 4 (.int .i64 c.gen2))
         rw [Nf.only_take (by rw [HNN.out];exact hlt),HTG.out]
         simpa [Nf.withTag] using h4
        exact ⟨k + 1,by omega,by go_num,hnew,(gr_set (gr_set HGR.out (.inr rfl) (.int .i64 c.no2)) (.inr rfl) (.int .i64 c.gen2))⟩
       case measure=>simp [intOf];omega
      ·have htag:tg = 4:=ht
       subst htag
       go_wp2
       go_roundw
       case rel =>
        have hnew:(wr.setCell ⟨n7,5,none⟩ (.string c.nm)).heap[n7]? = some (Ks.BC (Nf.only c ((Ks.Ak.needs c.k).take (k + 1)))):=by
         have h4:=(set_at HBX.out 5 (.string c.nm))
         rw [Nf.only_take (by rw [HNN.out];exact hlt),HTG.out]
         simpa [Nf.withTag] using h4
        exact ⟨k + 1,by omega,by go_num,hnew,(gr_set HGR.out (.inr rfl) (.string c.nm))⟩
       case measure=>simp [intOf];omega
      ·have htag:tg = 5:=ht
       subst htag
       go_wp2
       go_roundw
       case rel =>
        have hnew:(wr.setCell ⟨n7,6,none⟩ (.string c.nm2)).heap[n7]? = some (Ks.BC (Nf.only c ((Ks.Ak.needs c.k).take (k + 1)))):=by
         have h4:=(set_at HBX.out 6 (.string c.nm2))
         rw [Nf.only_take (by rw [HNN.out];exact hlt),HTG.out]
         simpa [Nf.withTag] using h4
        exact ⟨k + 1,by omega,by go_num,hnew,(gr_set HGR.out (.inr rfl) (.string c.nm2))⟩
       case measure=>simp [intOf];omega
      ·have htag:tg = 6:=ht
       subst htag
       go_wp2
       go_roundw
       case rel =>
        have hnew:(wr.setCell ⟨n7,7,none⟩ (.int .i64 c.pl)).heap[n7]? = some (Ks.BC (Nf.only c ((Ks.Ak.needs c.k).take (k + 1)))):=by
         have h4:=(set_at HBX.out 7 (.int .i64 c.pl))
         rw [Nf.only_take (by rw [HNN.out];exact hlt),HTG.out]
         simpa [Nf.withTag] using h4
        exact ⟨k + 1,by omega,by go_num,hnew,(gr_set HGR.out (.inr rfl) (.int .i64 c.pl))⟩
       case measure=>simp [intOf];omega
      ·have htag:tg = 7:=ht
       subst htag
       go_wp2
       go_roundw
       case rel =>
        have hnew:(wr.setCell ⟨n7,8,none⟩ (.int .i64 c.n)).heap[n7]? = some (Ks.BC (Nf.only c ((Ks.Ak.needs c.k).take (k + 1)))):=by
         have h4:=(set_at HBX.out 8 (.int .i64 c.n))
         rw [Nf.only_take (by rw [HNN.out];exact hlt),HTG.out]
         simpa [Nf.withTag] using h4
        exact ⟨k + 1,by omega,by go_num,hnew,(gr_set HGR.out (.inr rfl) (.int .i64 c.n))⟩
       case measure=>simp [intOf];omega
      ·have htag:tg = 8:=ht
       subst htag
       go_wp2
       go_roundw
       case rel =>
        have hnew:(wr.setCell ⟨n7,9,none⟩ (.string c.data)).heap[n7]? = some (Ks.BC (Nf.only c ((Ks.Ak.needs c.k).take (k + 1)))):=by
         have h4:=(set_at HBX.out 9 (.string c.data))
         rw [Nf.only_take (by rw [HNN.out];exact hlt),HTG.out]
         simpa [Nf.withTag] using h4
        exact ⟨k + 1,by omega,by go_num,hnew,(gr_set HGR.out (.inr rfl) (.string c.data))⟩
       case measure=>simp [intOf];omega
     ·obtain rfl:k = nn:=by omega
      have HC2:Hid (wr.heap[n7]? = some (Ks.BC (Nf.only c (Ks.Ak.needs c.k)))):=by
       have h:=HBX.out
       rw [List.take_of_length_le (by rw [HNN.out];exact Nat.le_refl _)] at h
       exact h
      have M0:Hid (wr.heap[n0]? = some (BSt (.slice ai ni ci) (.slice ao no co) (.slice sp sn sc) dn)):=(HGR.out.block _ (qL L0.out) (by simp;omega)).trans L0.out
      have HBR:Hid (Below w.heap.size w wr):=HBV.out.grown HGR.out HBV.out.size (fun q e=>by cases e;have h:=HE0.out;omega)
      obtain ⟨t0,t1,t2,t3⟩:=st_of M0.out
      obtain ⟨k0,k1,k2,k3,k4,k5,k6,k7,k8,k9,k10⟩:=do_of M1.out
      clear HBX HGR hws
      obtain ⟨cc,hcc⟩:∃ cc,Nf.only c (Ks.Ak.needs c.k) = cc:=⟨_,rfl⟩
      rw [hcc] at HC2
      have HNS:Hid (Nf.doR (pl L) O dn cl cc = Nf.doR (pl L) O dn cl c/\Nf.doT (pl L) O dn cl cc = Nf.doT (pl L) O dn cl c/\Nf.doO (pl L) O dn cl cc = Nf.doO (pl L) O dn cl c):=by rw [← hcc];exact Nf.needs_same HRC.out _ _ _ _
      have HF2:Hid (fits cc):=by
       have hp:=Ks.Ak.right_iff.1 HRC.out
       have h2:=Nf.only_right hp (Ks.Ak.needs c.k) _ (Nf.bare_right hp)
       show fits cc
       rw [← hcc]
       obtain ⟨-,-,-,z1,z2,-,-,z3⟩:=h2
       unfold fits maxLen
       exact ⟨by show (Nf.only c (Ks.Ak.needs c.k)).nm.size<=_;unfold Nf.only;omega,by show (Nf.only c (Ks.Ak.needs c.k)).nm2.size<=_;unfold Nf.only;omega,by show (Nf.only c (Ks.Ak.needs c.k)).data.size<=_;unfold Nf.only;omega⟩
      obtain ⟨R,hR⟩:∃ R,Nf.doR (pl L) O dn cl c = R:=⟨_,rfl⟩
      obtain ⟨T,hT⟩:∃ R,Nf.doT (pl L) O dn cl c = R:=⟨_,rfl⟩
      obtain ⟨Q,hQ⟩:∃ R,Nf.doO (pl L) O dn cl c = R:=⟨_,rfl⟩
      obtain ⟨D,hD⟩:∃ R,Nf.doD (pl L) O dn cl = R:=⟨_,rfl⟩
      have HR:Hid (Nf.doR (pl L) O dn cl c = R):=hR
      have HT:Hid (Nf.doT (pl L) O dn cl c = T):=hT
      have HQ:Hid (Nf.doO (pl L) O dn cl c = Q):=hQ
      have HD:Hid (Nf.doD (pl L) O dn cl = D):=hD
      rw [hR,hT,hQ] at HNS
      clear hcc hR hT hQ hD
      go_wp2_with fail
      refine (do_step (S:=fun b=>b < w.heap.size) (R:=R) (T:=T) (Q:=Q) (D:=D) (HV.out.up HBR.out) (HO.out.up HBR.out) HOK.out HF.out HR.out HT.out HQ.out HD.out).mono ?_
      rintro e a1 ⟨ep,en,ec,up,un,uc,op,on,oc,L1,rfl,q1,q2,q3,q4,hb⟩
      have P0:Hid (a1.heap[n0]? = some (BSt (.slice ai ni ci) (.slice ao no co) (.slice sp sn sc) dn)):=(hb.block _ (qL M0.out)).trans M0.out
      have P1:Hid (a1.heap[n1]? = some (BD1 cl c)):=(hb.block _ (qL M1.out)).trans M1.out
      have P7:Hid (a1.heap[n7]? = some (Ks.BC cc)):=(hb.block _ (qL HC2.out)).trans HC2.out
      have PB:Hid (Below w.heap.size w a1):=HBR.out.trans (hb.mono HBR.out.size)
      have PT:Hid (TabW a1 (.slice up un uc) L1):=q1.imp (fun _ _ _=>trivial)
      have PL:Hid (pl L1 = T):=q2
      have PO:Hid (AtW Os.EO a1 (.slice op on oc) Q):=q3.wide
      have PE:Hid (AtW EE a1 (.slice ep en ec) R.ents):=q4.wide
      obtain ⟨X,hX⟩:∃ X,X = (a1.alloc (BSt (.slice up un uc) (.slice op on oc) (.slice sp sn sc) D)).alloc (BRl R (.slice ep en ec)):=⟨_,rfl⟩
      obtain ⟨A,hA⟩:∃ n,a1.heap.size = n:=⟨_,rfl⟩
      obtain ⟨B,hB⟩:∃ n,a1.heap.size + 1 = n:=⟨_,rfl⟩
      have HAE:Hid (a1.heap.size = A):=hA
      have HBE:Hid (a1.heap.size + 1 = B):=hB
      have hbx:Below a1.heap.size a1 X:=by rw [hX];exact two_st _ _ _
      have XA:Hid (X.heap[A]? = some (BSt (.slice up un uc) (.slice op on oc) (.slice sp sn sc) D)):=by show _ = _;rw [hX,← hA];exact (Below.heap_alloc _ _ _ (by simp)).trans (heap_alloc_new _ _)
      have XB:Hid (X.heap[B]? = some (BRl R (.slice ep en ec))):=by show _ = _;rw [hX,← hB];have h:=heap_alloc_new (a1.alloc (BSt (.slice up un uc) (.slice op on oc) (.slice sp sn sc) D)) (BRl R (.slice ep en ec));simpa using h
      have X0:Hid (X.heap[n0]? = some (BSt (.slice ai ni ci) (.slice ao no co) (.slice sp sn sc) dn)):=(hbx.block _ (qL P0.out)).trans P0.out
      have XBl:Hid (Below w.heap.size w X):=PB.out.trans (hbx.mono PB.out.size)
      have XT:Hid (TabW X (.slice up un uc) L1):=PT.out.up hbx
      have XO:Hid (AtW Os.EO X (.slice op on oc) Q):=PO.out.up hbx
      have XE:Hid (AtW EE X (.slice ep en ec) R.ents):=PE.out.up hbx
      clear t0 t1 t2 t3 k0 k1 k2 k3 k4 k5 k6 k7 k8 k9 k10 q1 q2 q3 q4 hb hA hB hbx M0 M1 HC2 HBR
      obtain ⟨t0,t1,t2,t3⟩:=st_of P0.out
      obtain ⟨k0,k1,k2,k3,k4,k5,k6,k7,k8,k9,k10⟩:=do_of P1.out
      obtain ⟨x0,x1,x2,x3,x4,x5,x6,x7,x8,x9⟩:=Ks.ten_of P7.out
      have g0:n0 < a1.heap.size:=(qL P0.out)
      have g1:n1 < a1.heap.size:=(qL P1.out)
      have g7:n7 < a1.heap.size:=(qL P7.out)
      go_wp2_with fail
      rw [← hX,HBE.out,HAE.out]
      clear hX t0 t1 t2 t3 k0 k1 k2 k3 k4 k5 k6 k7 k8 k9 k10 x0 x1 x2 x3 x4 x5 x6 x7 x8 x9 g0 g1 g7 P0 P1 P7 PB PT PO PE
      refine (do_step (S:=fun b=>b < w.heap.size) (R:=R) (T:=T) (Q:=Q) (D:=D) (HV.out.up XBl.out) (HO.out.up XBl.out) HOK.out HF2.out HNS.out.1 HNS.out.2.1 HNS.out.2.2 HD.out).mono ?_
      rintro e a2 ⟨ep2,en2,ec2,up2,un2,uc2,op2,on2,oc2,L2,rfl,q1,q2,q3,q4,hb⟩
      have YB:Hid (Below w.heap.size w a2):=XBl.out.trans (hb.mono XBl.out.size)
      have YA:Hid (a2.heap[A]? = some (BSt (.slice up un uc) (.slice op on oc) (.slice sp sn sc) D)):=(hb.block _ (qL XA.out)).trans XA.out
      have YR:Hid (a2.heap[B]? = some (BRl R (.slice ep en ec))):=(hb.block _ (qL XB.out)).trans XB.out
      have Y1:Hid (TabW a2 (.slice up un uc) L1/\TabW a2 (.slice up2 un2 uc2) L2/\pl L1 = pl L2):=⟨XT.out.up hb,q1.imp (fun _ _ _=>trivial),by rw [PL.out,q2]⟩
      have Y2:Hid (AtW Os.EO a2 (.slice op on oc) Q/\AtW Os.EO a2 (.slice op2 on2 oc2) Q):=⟨XO.out.up hb,q3.wide⟩
      have Y3:Hid (AtW EE a2 (.slice ep en ec) R.ents/\AtW EE a2 (.slice ep2 en2 ec2) R.ents):=⟨XE.out.up hb,q4.wide⟩
      obtain ⟨U,hU⟩:∃ X,X = (a2.alloc (BSt (.slice up2 un2 uc2) (.slice op2 on2 oc2) (.slice sp sn sc) D)).alloc (BRl R (.slice ep2 en2 ec2)):=⟨_,rfl⟩
      obtain ⟨A2,hA⟩:∃ n,a2.heap.size = n:=⟨_,rfl⟩
      obtain ⟨B2,hB⟩:∃ n,a2.heap.size + 1 = n:=⟨_,rfl⟩
      have HAE2:Hid (a2.heap.size = A2):=hA
      have HBE2:Hid (a2.heap.size + 1 = B2):=hB
      have hbu:Below a2.heap.size a2 U:=by rw [hU];exact two_st _ _ _
      have HBU:Hid (Below a2.heap.size a2 U):=hbu
      have UA:Hid (U.heap[A2]? = some (BSt (.slice up2 un2 uc2) (.slice op2 on2 oc2) (.slice sp sn sc) D)):=by show _ = _;rw [hU,← hA];exact (Below.heap_alloc _ _ _ (by simp)).trans (heap_alloc_new _ _)
      have UB:Hid (U.heap[B2]? = some (BRl R (.slice ep2 en2 ec2))):=by show _ = _;rw [hU,← hB];have h:=heap_alloc_new (a2.alloc (BSt (.slice up2 un2 uc2) (.slice op2 on2 oc2) (.slice sp sn sc) D)) (BRl R (.slice ep2 en2 ec2));simpa using h
      have UR:Hid (U.heap[B]? = some (BRl R (.slice ep en ec))):=(hbu.block _ (qL YR.out)).trans YR.out
      have UBl:Hid (Below w.heap.size w U):=YB.out.trans (hbu.mono YB.out.size)
      obtain ⟨t0,t1,t2,t3⟩:=st_of YA.out
      have g0:A < a2.heap.size:=(qL YA.out)
      have g1:B < a2.heap.size:=(qL YR.out)
      clear q1 q2 q3 q4 hb hA hB hbu XA XB X0 XT XO XE XBl
      go_wp2_with fail
      rw [← hU,HBE2.out,HAE2.out]
      clear hU t0 t1 t2 t3
      refine (state_same _ _ _ _ _ _ D L1 L2 Q Z U (Y1.out.1.up HBU.out) (Y1.out.2.1.up HBU.out) Y1.out.2.2 (Y2.out.1.up HBU.out) (Y2.out.2.up HBU.out) (HZ.out.up UBl.out) (HZ.out.up UBl.out)).mono ?_
      rintro e u1 ⟨rfl,hb⟩
      have S1:Hid (u1.heap[B2]? = some (BRl R (.slice ep2 en2 ec2))):=(hb.block _ (qL UB.out)).trans UB.out
      have S2:Hid (u1.heap[B]? = some (BRl R (.slice ep en ec))):=(hb.block _ (qL UR.out)).trans UR.out
      have SB:Hid (Below w.heap.size w u1):=UBl.out.trans (hb.mono UBl.out.size)
      have SE:Hid (AtW EE u1 (.slice ep en ec) R.ents/\AtW EE u1 (.slice ep2 en2 ec2) R.ents):=⟨(Y3.out.1.up HBU.out).up hb,(Y3.out.2.up HBU.out).up hb⟩
      obtain ⟨y0,y1,y2,y3,y4,y5,y6,y7,y8,y9⟩:=rp_of S1.out
      obtain ⟨z0,z1,z2,z3,z4,z5,z6,z7,z8,z9⟩:=rp_of S2.out
      clear hb
      go_wp2_with fail
      refine (reply_same R _ _ u1 SE.out.1 SE.out.2).mono ?_
      rintro e u2 ⟨rfl,hb⟩
      have SB2:Hid (Below w.heap.size w u2):=SB.out.trans (hb.mono SB.out.size)
      clear hb
      go_wp2_with fail
      refine (HEND.out _ SB2.out).mono ?_
      rintro e u3 ⟨rfl,hb4⟩
      go_wp2
      go_ret
      exact ⟨rfl,hb4⟩
   ·rw [if_neg hr] at hce
    subst hce
    clear hr
    go_wp2_with fail
    refine (HEND.out _ HB3.out).mono ?_
    rintro e w4 ⟨rfl,hb4⟩
    go_wp2
    go_ret
    exact ⟨rfl,hb4⟩
  ·go_wp2_with fail
   refine (HEND.out _ HB2.out).mono ?_
   rintro e w4 ⟨rfl,hb4⟩
   go_wp2
   go_ret
   exact ⟨rfl,hb4⟩
 ·have hz:(ne != 0) = true:=by simpa using hn0
  go_wp2_with fail
  refine (HEND.out _ HB1.out).mono ?_
  rintro e w4 ⟨rfl,hb4⟩
  go_wp2
  go_ret
  exact ⟨rfl,hb4⟩
end Go.Proofs.YtneojimodomohaaGreat
