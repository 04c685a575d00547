/- Fol, as one. -/
import Derived.Shelf.Abstract
import Derived.Shelf.RegionOpen
import Derived.OwnWalkIn
import Derived.TacticsInMore
import Derived.LoopNIn
import Derived.LoopIn
import Derived.Test.YtggoccfddnpelaaGreatR4
import Derived.Test.YtggoccfddnpelaaGreatR6
namespace Go.Proofs.YtggoccfddnpelaaGreat
open Go.ChangeShapes Go.WideShapes Go.ChangeAt Go.RowKit Go.Deep Go.Shelf It
set_option maxRecDepth 100000
attribute [local go_sem] Oper.semAt_some
abbrev PT (b:Nat):Value:=.pointer (some ⟨b,0,none⟩)
def encF (x:Nat × ByteArray):Array Value:=#[.int .i64 x.1,.string x.2]
theorem folders_any (v:Value) (no:Int) (path:ByteArray) (w:World) (hv:∃ ao n cap,v = .slice ao n cap) :
    Calls Tryz.prog 121 #[v,.int .i64 no,.string path] w fun e w'=>e = .returned (.func (.func 151) #[] #[PT (w.heap.size + 1),PT (w.heap.size + 1 + 1),PT w.heap.size]) /\
      w' = ((w.alloc (.cells #[v] 23)).alloc (.cells #[.int .i64 no] 3)).alloc (.cells #[.string path] 9):=by
  obtain ⟨ao,n,cap,rfl⟩:=hv
  go_enter Tryz.func121,Tryz.ntmps121
  go_wp2
  go_ret
  exact ⟨rfl,rfl⟩
theorem RoundIn.inRound {F:Fence} {m:Nat} {P:Program} {l l':Nat} {f:FuncId} {tmps:Array Value} {assign body:Code} {w:World} {R:Ending->World->Prop} (h:RoundIn F m P l f tmps assign body w R):RoundIn (F.inRound l') m P l f tmps assign body w R:=h
theorem eight.kp {w V:World} {b o Bx:Nat} {x:Rw} (h:eight w b o x) (hk:Kp Bx w V) (hn:¬ Mine Bx w b) (hb:b < w.heap.size):eight V b o x:=by
  obtain ⟨h0,h1,h2,h3,h4,h5,h6,h7⟩:=h
  exact ⟨(hk.cell hn hb).trans h0,(hk.cell hn hb).trans h1,(hk.cell hn hb).trans h2,(hk.cell hn hb).trans h3,(hk.cell hn hb).trans h4,(hk.cell hn hb).trans h5,(hk.cell hn hb).trans h6,(hk.cell hn hb).trans h7⟩
theorem tab_kp {w V:World} {Bx n₀:Nat} {v:Value} {L:List Rw} (h:TabAt (fun b=>b < n₀) w v L) (hk:Kp Bx w V) (hs:∀ b,b < n₀->¬ Mine Bx w b):TabAt (fun b=>b < n₀) V v L :=
  have k:∀ b,b < n₀->b < w.heap.size->V.heap[b]? = w.heap[b]?/\b < n₀:=fun b hb hl=>⟨hk.keep b hl (hs b hb),hb⟩
  ⟨h.1.keep hk.size k,fun x hx=>⟨(h.2 x hx).1.keep hk.size k,(h.2 x hx).2.1.keep hk.size k,(h.2 x hx).2.2⟩⟩
theorem ents_at {L:List Rw} {no:Nat} {x:Rw} (h:L[no]? = some x):Sp.entsAt (pl L) no = x.i.ents/\Sp.dirAt (pl L) no = (x.i.kind == 2):=by
  unfold Sp.entsAt Sp.dirAt
  rw [show (pl L)[no]? = some x.i from by simp [h]]
  exact ⟨rfl,rfl⟩
/-- The four cells of an entry. -/
abbrev ent4 (V:World) (b o:Nat) (e:Sp.En):Prop:=V.cell? ⟨b,o,none⟩ = some (.string e.1)/\V.cell? ⟨b,o + 1,none⟩ = some (.int .i64 e.2.1)/\V.cell? ⟨b,o + 2,none⟩ = some (.int .i64 e.2.2.1)/\V.cell? ⟨b,o + 3,none⟩ = some (.int .i64 e.2.2.2)
abbrev BEn (e:Sp.En):Obj:=.cells #[.string e.1,.int .i64 e.2.1,.int .i64 e.2.2.1,.int .i64 e.2.2.2] 91
theorem ent_of {w:World} {A:Nat} {e:Sp.En} (h:w.heap[A]? = some (BEn e)):ent4 w A 0 e/\∀ j,w.frozen? ⟨A,j,none⟩ = false:=by
  refine ⟨⟨?_,?_,?_,?_⟩,fun j=>?_⟩ <;> simp [World.cell?,World.frozen?,h]
theorem leaves_end {n:Nat} {tmps:Array Value} {R:Ending->World->Prop} {W:World} (h:∀ v,R (.returned v) W):LeavesInM Fence.wide n Tryz.prog Tryz.f151 tmps R [] .returning W:=⟨_,results_none rfl _ _ _,h _⟩
set_option maxRecDepth 100000 in
set_option maxHeartbeats 4000000 in
theorem iter_in (L : List Rw) (ao : Option Addr) (cap n₀ Bx : Nat) : ∀ (f no : Nat) (path : ByteArray) (w : World) (bn bp bl : Nat), Sp.deep (pl L) f no → path.size + 33 * f ≤ 1000 → L.length ≤ 1000 → n₀ ≤ w.heap.size → TabAt (fun b => b < n₀) w (.slice ao L.length cap) L → HasBox Bx w → (∀ b, b < n₀ → ¬ Mine Bx w b) →
    (w.cell? ⟨bn,0,none⟩ = some (.int .i64 no)/\w.cell? ⟨bp,0,none⟩ = some (.string path)/\w.cell? ⟨bl,0,none⟩ = some (.slice ao L.length cap))->(¬ Mine Bx w bn/\¬ Mine Bx w bp/\¬ Mine Bx w bl) ->
    SeqOwn Tryz.prog 151 #[PT bn,PT bp,PT bl] encF Bx (Sp.walk (pl L) f no path) w
  | 0,_,_,_,_,_,_,h,_,_,_,_,_,_,_,_=>h.elim
  | f + 1, no, path, w, bn, bp, bl, hdeep, hpath, hLn, hn0, htab, hbox, hsafe, ⟨cn, cp, cl⟩, ⟨sn, sp, sl⟩ => by
    have IH:Hid (∀ (no:Nat) (path:ByteArray) (w:World) (bn bp bl:Nat),Sp.deep (pl L) f no->path.size + 33 * f<=1000->L.length<=1000->n₀<=w.heap.size->TabAt (fun b=>b < n₀) w (.slice ao L.length cap) L->HasBox Bx w->(∀ b,b < n₀->¬ Mine Bx w b) ->
      (w.cell? ⟨bn,0,none⟩ = some (.int .i64 no)/\w.cell? ⟨bp,0,none⟩ = some (.string path)/\w.cell? ⟨bl,0,none⟩ = some (.slice ao L.length cap))->(¬ Mine Bx w bn/\¬ Mine Bx w bp/\¬ Mine Bx w bl) ->
      SeqOwn Tryz.prog 151 #[PT bn,PT bp,PT bl] encF Bx (Sp.walk (pl L) f no path) w):=iter_in L ao cap n₀ Bx f
    intro n l J Jx W hgW hl hJ hJx hY h0
    have hbW:HasBox Bx W:=hbox.up (hgW.block _ hbox.lt (by simp)) hgW.size
    obtain ⟨Y,hYd⟩:∃ Y,W.heap.size = Y:=⟨_,rfl⟩
    obtain ⟨W1,hW1⟩:∃ W1,W1 = W.alloc (.cells #[.func (.yield l) #[] #[]] 185):=⟨_,rfl⟩
    have hgW1:w.grownBy W1 none:=by rw [hW1];exact grown_trans hgW (World.grownBy_alloc _ _ none)
    have hk1:Kp Bx w W1:=Kp.still hbox hgW1
    have hJ1:J [] W1:=by rw [hW1];exact hJ.alloc _ h0
    have cy:W1.cell? ⟨Y,0,none⟩ = some (.func (.yield l) #[] #[]):=by
      have:=heap_alloc_new W (.cells #[.func (.yield l) #[] #[]] 185)
      rw [hW1,← hYd]
      simp only [World.cell?,this]
      rfl
    have sy:¬ Mine Bx W1 Y:=by rw [hW1,← hYd];exact hbW.new (World.grownBy_alloc W _ none) (Nat.le_refl _)
    have hl1:=World.block_lt_of_cell? _ _ cn
    have hl2:=World.block_lt_of_cell? _ _ cp
    have hl3:=World.block_lt_of_cell? _ _ cl
    have dn:=(hk1.cell (o:=0) sn hl1).trans cn
    have dp:=(hk1.cell (o:=0) sp hl2).trans cp
    have dl:=(hk1.cell (o:=0) sl hl3).trans cl
    obtain ⟨fn,tmps,assign,body,hy,hR⟩:=hY (n - 1) [] (no,path) W1 (by rw [Sp.walk_succ];exact ⟨(Sp.entsAt (pl L) no).flatMap (Sp.step (pl L) f path),rfl⟩) hJ1
    simp only [encF] at hy
    have HDEEP:Hid (Sp.deep (pl L) (f + 1) no):=hdeep
    have HYY:Hid (Yields Tryz.prog l encF Bx (Sp.walk (pl L) (f + 1) no path) J Jx):=hY
    have HJ:Hid (OwnFrom W.heap.size J/\OwnFrom W.heap.size Jx):=⟨hJ,hJx⟩
    have HTAB:Hid (TabAt (fun b=>b < n₀) w (.slice ao L.length cap) L):=htab
    have HSAFE:Hid ((∀ b,b < n₀->¬ Mine Bx w b)/\(¬ Mine Bx w bn/\¬ Mine Bx w bp/\¬ Mine Bx w bl)/\¬ Mine Bx W1 Y/\HasBox Bx w):=⟨hsafe,⟨sn,sp,sl⟩,sy,hbox⟩
    have HK1:Hid (Kp Bx w W1):=hk1
    have HCW:Hid (w.cell? ⟨bn,0,none⟩ = some (.int .i64 no)/\w.cell? ⟨bp,0,none⟩ = some (.string path)/\w.cell? ⟨bl,0,none⟩ = some (.slice ao L.length cap)):=⟨cn,cp,cl⟩
    have HCY:Hid (W1.cell? ⟨Y,0,none⟩ = some (.func (.yield l) #[] #[])/\Y < W1.heap.size):=⟨cy,World.block_lt_of_cell? _ _ cy⟩
    have HLW:Hid (l < W.heap.size/\W.heap.size = Y):=⟨hl,hYd⟩
    have HN0:Hid (n₀<=w.heap.size):=hn0
    clear hn0
    clear hdeep hY hJ hJx htab hsafe sn sp sl sy hbox hk1 hgW hgW1 h0 hJ1 cn cp cl hl hl1 hl2 hl3 hbW
    refine callsIn_of_wp_marks Tryz.func151 rfl trivial ?_
    simp only [Tryz.ntmps151,List.size_toArray,List.length_cons,List.length_nil,Nat.reduceAdd,Nat.reduceSub,Array.replicate_succ,Array.replicate_zero,List.push_toArray,List.append_toArray,List.nil_append,List.cons_append]
    subst hW1
    gi_wp2
    refine ⟨fun h=>(by cases h),hR.mono ?_⟩
    clear hR hy
    rintro e W2 (⟨rfl,hJ2,hk2⟩ | ⟨rfl,hJx2,hkf2⟩)
    · have HK2 : Hid (Kp Bx w W2) := HK1.out.trans hk2
      have HYB:Hid (W2.cell? ⟨Y,0,none⟩ = some (.func (.yield l) #[] #[])/\¬ Mine Bx W2 Y/\Y < W2.heap.size):=⟨(hk2.cell HSAFE.out.2.2.1 HCY.out.2).trans HCY.out.1,hk2.safe HSAFE.out.2.2.1 HCY.out.2,Nat.lt_of_lt_of_le HCY.out.2 hk2.size⟩
      have HJ2:Hid (J [(no,path)] W2):=hJ2
      have hno:=HDEEP.out.1
      rw [List.length_map] at hno
      obtain ⟨x,hx⟩:∃ x,L[no]? = some x:=⟨_,List.getElem?_eq_getElem hno⟩
      obtain ⟨ao',cap',hv',-,hcells⟩:=HTAB.out.1.open
      simp only [Value.slice.injEq] at hv'
      obtain ⟨rfl,-,rfl⟩:=hv'
      obtain ⟨b,off,rfl,hbn,hbl,-⟩:=hcells no x hx
      have H8:Hid (∀ i y,L[i]? = some y->eight w b (off + i * 8) y):=fun i y hy=>by
        obtain ⟨b',off',he,_,_,hc⟩:=hcells i y hy
        simp only [Option.some.injEq,Addr.mk.injEq,and_true] at he
        obtain ⟨rfl,rfl⟩:=he
        exact ⟨hc 0 _ rfl,hc 1 _ rfl,hc 2 _ rfl,hc 3 _ rfl,hc 4 _ rfl,hc 5 _ rfl,hc 6 _ rfl,hc 7 _ rfl⟩
      have HSB:Hid (¬ Mine Bx w b/\b < w.heap.size):=⟨HSAFE.out.1 b hbn,hbl⟩
      have hgood:=HTAB.out.2 x (List.mem_of_getElem? hx)
      have HLEN:Hid (x.en = x.i.ents.length):=hgood.len.2
      obtain ⟨eo,ecap,hev,hem,hents⟩:=hgood.2.1.open
      simp only [Value.slice.injEq] at hev
      obtain ⟨rfl,-,rfl⟩:=hev
      have HEN:Hid (∀ j e,x.i.ents[j]? = some e->∃ b2 off2,x.ep = some ⟨b2,off2,none⟩/\¬ Mine Bx w b2/\b2 < w.heap.size/\ent4 w b2 (off2 + j * 4) e):=fun j e he=>by
        obtain ⟨b2,off2,h1,h2,h3,hc⟩:=hents j e he
        exact ⟨b2,off2,h1,HSAFE.out.1 b2 h2,h3,hc 0 _ rfl,hc 1 _ rfl,hc 2 _ rfl,hc 3 _ rfl⟩
      have HEA:Hid (Sp.entsAt (pl L) no = x.i.ents):=(ents_at hx).1
      obtain ⟨m,hm⟩:∃ m,x.en = m:=⟨_,rfl⟩
      have hmm:m<=9223372036854775807:=by rw [← hm,HLEN.out];unfold maxLen at hem;omega
      have HM:Hid (x.i.ents.length = m):=HLEN.out.symm.trans hm
      obtain ⟨q0,q1,q2,q3,q4,q5,q6,q7⟩:=(H8.out no x hx).kp HK2.out HSB.out.1 HSB.out.2
      rw [hm] at q6
      have dn:=(HK2.out.cell (o:=0) HSAFE.out.2.1.1 (World.block_lt_of_cell? _ _ HCW.out.1)).trans HCW.out.1
      have dp:=(HK2.out.cell (o:=0) HSAFE.out.2.1.2.1 (World.block_lt_of_cell? _ _ HCW.out.2.1)).trans HCW.out.2.1
      have dl:=(HK2.out.cell (o:=0) HSAFE.out.2.1.2.2 (World.block_lt_of_cell? _ _ HCW.out.2.2)).trans HCW.out.2.2
      have hno':(no:Int) < (L.length:Int):=by omega
      obtain ⟨ep,hep⟩:∃ ep,x.ep = ep:=⟨_,rfl⟩
      obtain ⟨ec,hec⟩:∃ ec,x.ec = ec:=⟨_,rfl⟩
      rw [hep] at q6
      rw [hec] at q6
      have HEP:Hid (x.ep = ep):=hep
      obtain ⟨LN,hLN⟩:∃ LN,L.length = LN:=⟨_,rfl⟩
      have HLN:Hid (L.length = LN):=hLN
      rw [hLN] at dl hno' hLn
      clear hcells hents hgood hx hk2 hJ2 hm q0 q1 q2 q3 q4 q5 q7 cy hep hec hno hLN hYd HLEN hem
      gi_wp2
      refine wpIn_loop (fun a' V=>∃ (u6 u21 u22 u23 u24 u25 u26 u27 u28 u29 u30 u31 u32 u33 u34 u35 u36 u37 u38 u39 u40 u41 u49:Value) (j:Nat) (ds:List Nat),(j<=m/\Hid (J (Sp.upto (pl L) f no path j) V)/\Hid (Kp Bx W2 V)/\Hid (Open W.heap.size ds V))/\a' = { tmps:=#[.func (.yield l) #[] #[],PT bn,PT bp,PT bl,PT Y,undef,u6,undef,undef,.func (.yield l) #[] #[],.int .i64 (no:Int),.string path,.bool true,.bool false,.slice (some ⟨b,off,none⟩) LN cap,.int .i64 (no:Int),.pointer (some ⟨b,off + no * 8,none⟩),.pointer (some ⟨b,off + no * 8 + 6,none⟩),.slice ep m ec,.int .i64 (m:Int),.int .i64 (j:Int),u21,u22,u23,u24,u25,u26,u27,u28,u29,u30,u31,u32,u33,u34,u35,u36,u37,u38,u39,u40,u41,undef,undef,undef,undef,undef,undef,undef,u49],defers:=marks ds }) (fun a' _=>m - (intOf (a'.tmps.getD 20 undef)).toNat) ⟨_,_,_,_,_,_,_,_,_,_,_,_,_,_,_,_,_,_,_,_,_,_,_,0,[],⟨Nat.zero_le _,by rw [Sp.upto_zero];exact HJ2.out,Kp.refl _ _,List.nodup_nil,fun D hD=>(by cases hD)⟩,rfl⟩ ?_
      clear q6 dn dp dl
      rintro _ V ⟨u6,u21,u22,u23,u24,u25,u26,u27,u28,u29,u30,u31,u32,u33,u34,u35,u36,u37,u38,u39,u40,u41,u49,j,ds,⟨hj,HJV,HKV,HOP⟩,rfl⟩
      have HKw:Hid (Kp Bx w V):=HK2.out.trans HKV.out
      have dl:=(HKw.out.cell (o:=0) HSAFE.out.2.1.2.2 (World.block_lt_of_cell? _ _ HCW.out.2.2)).trans HCW.out.2.2
      have dp:=(HKw.out.cell (o:=0) HSAFE.out.2.1.2.1 (World.block_lt_of_cell? _ _ HCW.out.2.1)).trans HCW.out.2.1
      rw [HLN.out] at dl
      by_cases hlt:j < m
      · obtain ⟨e, he⟩ : ∃ e, x.i.ents[j]? = some e := ⟨_, List.getElem?_eq_getElem (by rw [HM.out]; exact hlt)⟩
        have HEJ:Hid ((Sp.entsAt (pl L) no)[j]? = some e):=by rw [HEA.out];exact he
        obtain ⟨b2,off2,hep,hs2,hl2,h4⟩:=HEN.out j e he
        obtain rfl:ep = some ⟨b2,off2,none⟩:=HEP.out.symm.trans hep
        obtain ⟨⟨he0,he1,hes⟩,hdd⟩:=HDEEP.out.2 e (List.mem_of_getElem? HEJ.out)
        obtain ⟨s,ck,e3,g⟩:=e
        simp only at he0 he1 hes hdd h4
        obtain ⟨k,rfl⟩:∃ k:Nat,e3 = (k:Int):=⟨e3.toNat,by omega⟩
        rw [List.length_map] at he1
        have hkL:k < L.length:=by omega
        obtain ⟨y,hyk⟩:∃ y,L[k]? = some y:=⟨_,List.getElem?_eq_getElem hkL⟩
        have h8:=(H8.out k y hyk).kp HKw.out HSB.out.1 HSB.out.2
        have HDIR:Hid (Sp.dirAt (pl L) k = (y.i.kind == 2)):=(ents_at hyk).2
        have HDD:Hid (Sp.dirAt (pl L) k = true->Sp.deep (pl L) f k):=hdd
        have c4:ent4 V b2 (off2 + j * 4) (s,ck,(k:Int),g):=⟨(HKw.out.cell hs2 hl2).trans h4.1,(HKw.out.cell hs2 hl2).trans h4.2.1,(HKw.out.cell hs2 hl2).trans h4.2.2.1,(HKw.out.cell hs2 hl2).trans h4.2.2.2⟩
        obtain ⟨c0,c1,c2,c3⟩:=c4
        have hbV:=HKw.out.box HSAFE.out.2.2.2
        have hkLN:(k:Int) < (LN:Int):=by rw [← HLN.out];omega
        have hlt':(j:Int) < (m:Int):=by omega
        have hlb:bl < V.heap.size:=World.block_lt_of_cell? _ _ dl
        have hlp:bp < V.heap.size:=World.block_lt_of_cell? _ _ dp
        have hlbb:b < V.heap.size:=Nat.lt_of_lt_of_le HSB.out.2 HKw.out.size
        obtain ⟨V1,hV1⟩:∃ V1,V1 = V.alloc (BEn (s,ck,(k:Int),g)):=⟨_,rfl⟩
        have hgV:V.grownBy V1 none:=by rw [hV1];exact World.grownBy_alloc _ _ none
        have HKV1:Hid (Kp Bx V V1):=Kp.still hbV hgV
        have dl1:(V.alloc (BEn (s,ck,(k:Int),g))).cell? ⟨bl,0,none⟩ = _:=(cell_older hlb _ 0).trans dl
        have dp1:(V.alloc (BEn (s,ck,(k:Int),g))).cell? ⟨bp,0,none⟩ = _:=(cell_older hlp _ 0).trans dp
        obtain ⟨r0,r1,r2,r3,r4,r5,r6,r7⟩:eight (V.alloc (BEn (s,ck,(k:Int),g))) b (off + k * 8) y:=h8.below ((Below.refl V.heap.size V).alloc (Nat.le_refl _) _) hlbb
        clear h8 h4 he hep
        obtain ⟨V2,hV2⟩:∃ V2,V2 = (V.alloc (BEn (s,ck,(k:Int),g))).alloc (BIx y):=⟨_,rfl⟩
        have hg2:V.grownBy V2 none:=by rw [hV2];exact grown_trans (World.grownBy_alloc _ _ none) (World.grownBy_alloc _ _ none)
        have HKV2:Hid (Kp Bx V V2):=Kp.still hbV hg2
        have HJ2':Hid (J (Sp.upto (pl L) f no path j) V2):=HJ.out.1 _ _ _ none HJV.out hg2 (fun r e=>(by cases e))
        have HOP2:Hid (Open W.heap.size ds V2):=⟨HOP.out.1,fun D hD=>⟨(HOP.out.2 D hD).1,HKV2.out.others _ _ (HOP.out.2 D hD).2 rfl⟩⟩
        have HES:Hid ((pl L).length = LN/\k < L.length):=⟨by rw [List.length_map];exact HLN.out,hkL⟩
        have HSZ:Hid (s.size<=32):=hes
        clear hgV HKV1 hV1 hdd hyk hes he0 he1 hkL
        by_cases hkind:y.i.kind = 2
        · have hkb : (y.i.kind == 2) = true := by simp [hkind]
          have HDK:Hid (Sp.dirAt (pl L) k = true):=HDIR.out.trans hkb
          have hcat:¬ 9223372036854775807 < path.size + 1 + s.size:=by have:=HSZ.out;omega
          clear hkind
          have el:V2.cell? ⟨bl,0,none⟩ = some (.slice (some ⟨b,off,none⟩) LN cap):=by rw [hV2];exact (cell_older (by simp;omega) _ 0).trans dl1
          have ep:V2.cell? ⟨bp,0,none⟩ = some (.string path):=by rw [hV2];exact (cell_older (by simp;omega) _ 0).trans dp1
          obtain ⟨⟨g0,g1,g2,g3⟩,-⟩:=ent_of (heap_alloc_new V (BEn (s,ck,(k:Int),g)))
          have g0':V2.cell? ⟨V.heap.size,0,none⟩ = some (.string s):=by rw [hV2];exact (cell_older (by simp) _ 0).trans g0
          have g2':V2.cell? ⟨V.heap.size,2,none⟩ = some (.int .i64 (k:Int)):=by rw [hV2];exact (cell_older (by simp) _ 2).trans g2
          gi_wp2
          refine ⟨trivial,fun h=>(by cases h),(callsIn_wide.2 (isDir_any y _)).mono ?_⟩
          rintro e' w' ⟨rfl,rfl⟩
          rw [← hV2,hkb]
          clear hV2 dl1 dp1 r0 r1 r2 r3 r4 r5 r6 r7 g0 g1 g2 g3
          gi_wp2
          have hway:Sp.way path s = path ++ (⟨#[47]⟩:ByteArray) ++ s:=rfl
          generalize path ++ (⟨#[47]⟩:ByteArray) = q1 at hway ⊢
          generalize q1 ++ s = q at hway ⊢
          have HQ:Hid (Sp.way path s = q):=hway
          clear hway
          refine ⟨trivial,fun h=>(by cases h),?_⟩
          refine CallsIn.mono (callsIn_wide.2 (folders_any _ _ _ _ ⟨_,_,_,rfl⟩)) ?_
          rintro e' w' ⟨rfl,rfl⟩
          obtain ⟨V3,hV3⟩:∃ V3,V3 = ((V2.alloc (.cells #[.slice (some ⟨b,off,none⟩) LN cap] 23)).alloc (.cells #[.int .i64 (k:Int)] 3)).alloc (.cells #[.string q] 9):=⟨_,rfl⟩
          have hg3:V2.grownBy V3 none:=by rw [hV3];exact grown_trans (grown_trans (World.grownBy_alloc _ _ none) (World.grownBy_alloc _ _ none)) (World.grownBy_alloc _ _ none)
          have hs3:V3.heap.size = V2.heap.size + 3:=by rw [hV3];simp
          have hb2:HasBox Bx V2:=HKV2.out.box hbV
          have HK3:Hid (Kp Bx V2 V3):=Kp.still hb2 hg3
          have hb3:HasBox Bx V3:=HK3.out.box hb2
          have HKw3:Hid (Kp Bx w V3):=HKw.out.trans (HKV2.out.trans HK3.out)
          have HJ3:Hid (J (Sp.upto (pl L) f no path j) V3):=HJ.out.1 _ _ _ none HJ2'.out hg3 (fun r e=>(by cases e))
          have HOP3:Hid (Open W.heap.size ds V3):=⟨HOP2.out.1,fun D hD=>⟨(HOP2.out.2 D hD).1,HK3.out.others _ _ (HOP2.out.2 D hD).2 rfl⟩⟩
          have hWs:W.heap.size<=V3.heap.size:=by
            have h1:=HYB.out.2.2
            have h2:=HLW.out.2
            have h3:=HKV.out.size
            have h4:=HKV2.out.size
            omega
          have hlV:l < V3.heap.size:=by have:=HLW.out.1;omega
          have t0:V3.cell? ⟨V2.heap.size,0,none⟩ = some (.slice (some ⟨b,off,none⟩) LN cap):=by
            rw [hV3]
            refine (cell_older (by simp;omega) _ 0).trans ((cell_older (by simp) _ 0).trans ?_)
            simp only [World.cell?,heap_alloc_new V2 (.cells #[.slice (some ⟨b,off,none⟩) LN cap] 23)]
            rfl
          have t1:V3.cell? ⟨V2.heap.size + 1,0,none⟩ = some (.int .i64 (k:Int)):=by
            rw [hV3]
            refine (cell_older (by simp) _ 0).trans ?_
            have:=heap_alloc_new (V2.alloc (.cells #[.slice (some ⟨b,off,none⟩) LN cap] 23)) (.cells #[.int .i64 (k:Int)] 3)
            rw [show (V2.alloc (.cells #[.slice (some ⟨b,off,none⟩) LN cap] 23)).heap.size = V2.heap.size + 1 by simp] at this
            simp only [World.cell?,this]
            rfl
          have t2:V3.cell? ⟨V2.heap.size + 1 + 1,0,none⟩ = some (.string q):=by
            rw [hV3]
            have:=heap_alloc_new ((V2.alloc (.cells #[.slice (some ⟨b,off,none⟩) LN cap] 23)).alloc (.cells #[.int .i64 (k:Int)] 3)) (.cells #[.string q] 9)
            rw [show ((V2.alloc (.cells #[.slice (some ⟨b,off,none⟩) LN cap] 23)).alloc (.cells #[.int .i64 (k:Int)] 3)).heap.size = V2.heap.size + 1 + 1 by simp] at this
            simp only [World.cell?,this]
            rfl
          have HSEQ:Hid (SeqOwn Tryz.prog 151 #[PT (V2.heap.size + 1),PT (V2.heap.size + 1 + 1),PT V2.heap.size] encF Bx (Sp.walk (pl L) f k (Sp.way path s)) V3) :=
            IH.out k (Sp.way path s) V3 _ _ _ (HDD.out HDK.out) (by rw [Sp.way_size];have:=HSZ.out;omega) (by rw [HLN.out];exact hLn) (Nat.le_trans HN0.out HKw3.out.size) (tab_kp HTAB.out HKw3.out HSAFE.out.1) hb3 (fun b hb=>HKw3.out.safe (HSAFE.out.1 b hb) (Nat.lt_of_lt_of_le hb HN0.out))
              ⟨t1,by rw [HQ.out];exact t2,by rw [HLN.out];exact t0⟩ ⟨hb2.new hg3 (by omega),hb2.new hg3 (by omega),hb2.new hg3 (Nat.le_refl _)⟩
          have HST:Hid (Sp.upto (pl L) f no path (j + 1) = Sp.upto (pl L) f no path j ++ Sp.walk (pl L) f k (Sp.way path s)):=by
            show Sp.upto (pl L) f no path (j + 1) = _
            rw [Sp.upto_succ HEJ.out,Sp.step_dir (by simpa using HDK.out)]
            rfl
          rw [← hV3]
          clear hV3 el ep g0' g2' t0 t1 t2 hcat
          gi_wp2
          refine range_law (gf:=151) (lb:=#[PT (V2.heap.size + 1),PT (V2.heap.size + 1 + 1),PT V2.heap.size]) (encs:=encF) (Bx:=Bx) (xs:=Sp.walk (pl L) f k (Sp.way path s)) rfl (enters_of Tryz.func151 (by kernel_rfl) rfl) hb3 HSEQ.out (fun _=>rfl)
            (fun pre V4=>J (Sp.upto (pl L) f no path j ++ pre) V4/\Kp Bx V3 V4) (fun pre V4=>Jx (Sp.upto (pl L) f no path j ++ pre) V4/\∀ D∈ds,V4.heap[D]? = some (.deferred (some [])))
            (fun t A B row hs hg hr=>⟨HJ.out.1 _ A B row hs.1 hg (fun r e=>⟨Nat.le_trans hWs (hr r e).1,(hr r e).2⟩),kp_own (β:=Unit) hb3 (Nat.le_refl _) () A B row hs.2 hg hr⟩)
            (fun t A B row hs hg hr=>⟨HJ.out.2 _ A B row hs.1 hg (fun r e=>⟨Nat.le_trans hWs (hr r e).1,(hr r e).2⟩),fun D hD=>by
              have h1:=(Array.getElem?_eq_some_iff.1 (HOP3.out.2 D hD).2).1
              rw [hg.block D (Array.getElem?_eq_some_iff.1 (hs.2 D hD)).1 (fun e=>by have:=(hr D e.symm).1;omega)]
              exact hs.2 D hD⟩)
            ⟨by rw [List.append_nil];exact HJ3.out,Kp.refl _ _⟩
            (fun z=>{ tmps:=#[.func (.yield l) #[] #[],PT bn,PT bp,PT bl,PT Y,undef,PT V.heap.size,.int .i64 (z.1:Int),.string z.2,.func (.yield l) #[] #[],.int .i64 (no:Int),.string path,.bool true,.bool false,.slice (some ⟨b,off,none⟩) LN cap,.int .i64 (no:Int),.pointer (some ⟨b,off + no * 8,none⟩),.pointer (some ⟨b,off + no * 8 + 6,none⟩),.slice (some ⟨b2,off2,none⟩) m ec,.int .i64 (m:Int),.int .i64 (j:Int),.bool true,.pointer (some ⟨b2,off2 + j * 4,none⟩),.agg #[.string s,.int .i64 ck,.int .i64 (k:Int),.int .i64 g],.slice (some ⟨b,off,none⟩) LN cap,.pointer (some ⟨V.heap.size,2,none⟩),.pointer (some ⟨V.heap.size,2,none⟩),.int .i64 (k:Int),.pointer (some ⟨b,off + k * 8,none⟩),VI y,.bool true,.bool false,.slice (some ⟨b,off,none⟩) LN cap,.pointer (some ⟨V.heap.size,2,none⟩),.pointer (some ⟨V.heap.size,2,none⟩),.int .i64 (k:Int),.string path,.string q1,PT V.heap.size,.string s,.string q,.func (.func 151) #[] #[PT (V2.heap.size + 1),PT (V2.heap.size + 1 + 1),PT V2.heap.size],.int .i64 (z.1:Int),.string z.2,undef,undef,undef,undef,undef,u49],defers:=[] }) ?assign ?body ?done ?stop
          case assign =>
            intro l' m' z V4 K hK
            unfold encF
            gi_wp2
            exact hK
          case body =>
            rintro l' m' pre z V4 hl' hpz ⟨hJ4,hK4⟩
            have hpw:Sp.upto (pl L) f no path j ++ pre ++ [z] <+: Sp.walk (pl L) (f + 1) no path:=by
              refine List.IsPrefix.trans ?_ (Sp.upto_pre (pl L) f no path (j + 1))
              rw [HST.out,List.append_assoc]
              exact (List.prefix_append_right_inj _).2 hpz
            obtain ⟨fn4,tmps4,assign4,body4,hy4,hR4⟩:=HYY.out (m' - 1) (Sp.upto (pl L) f no path j ++ pre) z V4 hpw hJ4
            simp only [encF] at hy4
            have cy4:V4.cell? ⟨Y,0,none⟩ = some (.func (.yield l) #[] #[]):=by
              have h2:Kp Bx W2 V4:=(HKV.out.trans HKV2.out).trans (HK3.out.trans hK4)
              exact (h2.cell HYB.out.2.1 HYB.out.2.2).trans HYB.out.1
            have HK4:Hid (Kp Bx V3 V4):=hK4
            clear hJ4 hK4 hpw hpz
            gi_wp2
            refine ⟨fun h=>(by cases h),RoundIn.inRound (hR4.mono ?_)⟩
            clear hR4 hy4
            rintro e V5 (⟨rfl,hJ5,hk5⟩ | ⟨rfl,hJx5,hkf5⟩)
            · gi_wp2
              exact ⟨hk5,by rw [← List.append_assoc];exact hJ5,HK4.out.trans hk5⟩
            · have HMK : Hid (∀ D ∈ ds, V5.heap[D]? = some (.deferred (some []))) := fun D hD => hkf5.same D _ (by have := (HOP3.out.2 D hD).1; have := HLW.out.1; omega) (HK4.out.others _ _ (HOP3.out.2 D hD).2 rfl) rfl
              gi_wp2
              exact ⟨⟨hkf5.size,fun k o hk=>hkf5.same k o (by omega)⟩,by rw [← List.append_assoc];exact hJx5,HMK.out⟩
          case done =>
            rintro D V5 hD ⟨hJ5,hK5⟩ hdf
            have HOP5:Hid (Open W.heap.size (D :: ds) V5):=HOP3.out.cons (fun E hE=>hK5.others _ _ (HOP3.out.2 E hE).2 rfl) (Nat.le_trans hWs hD) hD hdf
            have HJ5:Hid (J (Sp.upto (pl L) f no path (j + 1)) V5):=by rw [HST.out];exact hJ5
            have HK5:Hid (Kp Bx W2 V5):=(HKV.out.trans HKV2.out).trans (HK3.out.trans hK5)
            clear hJ5 hK5 hdf hD
            gi_wp2
            refine ⟨⟨_,_,_,_,_,_,_,_,_,_,_,_,_,_,_,_,_,_,_,_,_,_,_,j + 1,D :: ds,⟨by omega,HJ5.out,HK5.out,HOP5.out⟩,by first | rfl | congr 1⟩,?_⟩
            simp [intOf]
            omega
          case stop =>
            rintro D pre V5 hD hpre ⟨hJx5,hmk5⟩ hdf
            have HOP5:Hid (Open W.heap.size (D :: ds) V5):=HOP3.out.cons hmk5 (Nat.le_trans hWs hD) hD hdf
            have HPR:Hid (Sp.upto (pl L) f no path j ++ pre <+: Sp.walk (pl L) (f + 1) no path):=by
              refine List.IsPrefix.trans ?_ (Sp.upto_pre (pl L) f no path (j + 1))
              rw [HST.out]
              exact (List.prefix_append_right_inj _).2 hpre
            gi_wp2
            exact leaves_marks (fun W'=>Jx (Sp.upto (pl L) f no path j ++ pre) W') (fun t A B row hs hg hr=>HJ.out.2 _ A B row hs hg hr) (fun W' h=>leaves_end (fun v=>⟨⟨v,rfl⟩,.inr ⟨_,HPR.out,h⟩⟩)) (D :: ds) V5 HOP5.out hJx5
        · have hkb : (y.i.kind == 2) = false := beq_eq_false_iff_ne.2 hkind
          have HST:Hid (Sp.upto (pl L) f no path (j + 1) = Sp.upto (pl L) f no path j):=by
            show Sp.upto (pl L) f no path (j + 1) = Sp.upto (pl L) f no path j
            rw [Sp.upto_succ HEJ.out,Sp.step_file (HDIR.out.trans hkb),List.append_nil]
          clear hkind
          gi_wp2
          refine ⟨trivial,fun h=>(by cases h),(callsIn_wide.2 (isDir_any y _)).mono ?_⟩
          rintro e' w' ⟨rfl,rfl⟩
          rw [← hV2,hkb]
          clear hV2 dl1 dp1 r0 r1 r2 r3 r4 r5 r6 r7
          gi_wp2
          refine ⟨⟨_,_,_,_,_,_,_,_,_,_,_,_,_,_,_,_,_,_,_,_,_,_,_,j + 1,ds,⟨by omega,by rw [HST.out];exact HJ2'.out,HKV.out.trans HKV2.out,HOP2.out⟩,by congr 1⟩,?_⟩
          simp [intOf]
          omega
      · obtain rfl : j = m := by omega
        have HEND:Hid (J (Sp.walk (pl L) (f + 1) no path) V):=by
          have hu:=Sp.upto_all (L:=pl L) (f:=f) (no:=no) (path:=path) (j:=j) (by rw [HEA.out];exact HM.out)
          rw [← hu]
          exact HJV.out
        gi_wp2
        exact leaves_marks (fun W'=>J (Sp.walk (pl L) (f + 1) no path) W') (fun s A B row hs hg hr=>HJ.out.1 _ A B row hs hg hr) (fun W' h=>leaves_end (fun v=>⟨⟨v,rfl⟩,.inl h⟩)) ds V HOP.out HEND.out
    · gi_wp2
      exact leaves_end (fun v=>⟨⟨v,rfl⟩,.inr ⟨_,by rw [Sp.walk_succ];exact ⟨(Sp.entsAt (pl L) no).flatMap (Sp.step (pl L) f path),rfl⟩,hJx2⟩⟩)
end Go.Proofs.YtggoccfddnpelaaGreat
