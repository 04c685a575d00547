/- ZIn2, ZRs, FRefP, RNm, as one. -/
import Derived.Test.YtggoccfddnpelaaGreatR23
namespace Go.Proofs.YtggoccfddnpelaaGreat
open Go.ChangeShapes Go.WideShapes Go.ChangeAt Go.RowKit Go.Deep It
set_option maxRecDepth 100000
theorem Sh.stI_len (l : List Sh.F) : ∀ x : Ino, (l.foldl Sh.stI x).runs.length ≤ x.runs.length + l.length ∧ (l.foldl Sh.stI x).ents.length ≤ x.ents.length + l.length := by
  induction l with
  | nil=>intro x;exact ⟨Nat.le_refl _,Nat.le_refl _⟩
  | cons f l ih =>
    intro x
    have h:=ih (Sh.stI x f)
    have h1:(Sh.stI x f).runs.length<=x.runs.length + 1/\(Sh.stI x f).ents.length<=x.ents.length + 1:=by
      unfold Sh.stI
      split
      · exact ⟨by simp,by simp⟩
      · split
        · exact ⟨by simp,by simp⟩
        · split
          · exact ⟨by simp,by simp⟩
          · exact ⟨by simp,by simp⟩
    rw [List.foldl_cons,List.length_cons]
    omega
theorem Sh.fold_take {α β:Type} (st:β->α->β) (y:β) (l:List α) {k:Nat} {x:α} (h:l[k]? = some x):(l.take (k + 1)).foldl st y = st ((l.take k).foldl st y) x:=by
  obtain ⟨hk,rfl⟩:=List.getElem?_eq_some_iff.1 h
  rw [List.take_succ_eq_append_getElem hk,List.foldl_append]
  rfl
/-- Fields in a slice, one by one. -/
theorem flds {B:Nat} {w:World} {v:Value} {l:List (Int × ByteArray)} (h:Ks.FieldsAt B w v l):∃ ao cap,v = .slice ao l.length cap/\l.length<=maxLen/\∀ i x,l[i]? = some x->∃ b off,ao = some ⟨b,off,none⟩/\b < B/\w.cell? ⟨b,off + i * 2,none⟩ = some (.int .i64 x.1)/\w.cell? ⟨b,off + i * 2 + 1,none⟩ = some (.string x.2):=by
  rcases h with ⟨ao,cap,rfl,rfl⟩ | ⟨b,off,cap,rfl,hB,hp,hc,hm,hx⟩
  · exact ⟨ao,cap,rfl,by simp,fun i x hi=>by simp at hi⟩
  · refine ⟨_, cap, rfl, by omega, fun i x hi => ⟨b, off, rfl, hB, ?_⟩⟩
    obtain ⟨hl,rfl⟩:=List.getElem?_eq_some_iff.1 hi
    have:=hx i hl
    have e:l.getD i (0,.empty) = l[i]:=by simp [List.getD,hl]
    rw [e] at this
    exact this
theorem grs (w:World) (A k:Nat) (u:Value):w.grownBy (w.setCell ⟨A,k,none⟩ u) (some A):=⟨rfl,rfl,rfl,by simp [World.setCell],fun j hj hk=>Below.heap_setCell _ _ _ _ (fun e=>hk (by rw [e]))⟩
theorem Row.low {α:Type} {E:Enc α} {w:World} {B C:Nat} {e:TypeId} {v:Value} {ls:List α} (h:Row E w B e v ls) (hc:C<=B):Row E w C e v ls:=by
  rcases h with h | ⟨g,cap,cur,h1,hB,h2⟩
  · exact .inl h
  · exact .inr ⟨g,cap,cur,h1,Nat.le_trans hc hB,h2⟩
theorem tx_ne {n0 A b:Nat} {x:Ino} {rv ev:Value} {w0 w:World} {s:ByteArray} (h:RI n0 A x rv ev w0 w) (hb:w.heap[b]? = some (BT s)):b≠A:=by
  rintro rfl
  rw [h.box] at hb
  cases hb
theorem tx_off {n0 A b:Nat} {x:Ino} {rv ev:Value} {w0 w:World} {s:ByteArray} (h:RI n0 A x rv ev w0 w) (hb:w.heap[b]? = some (BT s)) (k:Nat) (u:Value):(w.setCell ⟨A,k,none⟩ u).heap[b]? = some (BT s):=(Below.heap_setCell _ _ _ _ (tx_ne h hb)).trans hb
abbrev BIz:Obj:=.cells #[.int .i64 0,.int .i64 0,.int .i64 0,.int .i64 0,.int .i64 0,.slice none 0 0,.slice none 0 0,.int .i64 0] 52
set_option linter.unusedSimpArgs false in
set_option maxHeartbeats 8000000 in
theorem vinode_any (b : Nat) (s : ByteArray) (w : World) (h : w.heap[b]? = some (BT s)) (hs : s.size ≤ 1048576) :
    Calls Tryz.prog 29 #[.pointer (some ⟨b,0,none⟩)] w fun e w'=>∃ rv ev,e = .returned (.agg #[.int .i64 (Sh.rdI s).gen,.int .i64 (Sh.rdI s).kind,.int .i64 (Sh.rdI s).links,.int .i64 (Sh.rdI s).size,.int .i64 (Sh.rdI s).stamp,rv,ev,.int .i64 (Sh.rdI s).next])/\Row ER w' w.heap.size 67 rv (Sh.rdI s).runs/\Row EE w' w.heap.size 91 ev (Sh.rdI s).ents/\∃ t,Tx b t w w':=by
  obtain ⟨A2,hA2⟩:∃ n,n = w.heap.size:=⟨_,rfl⟩
  obtain ⟨W,hW⟩:∃ W,W = w.alloc (BIz):=⟨_,rfl⟩
  have HT0:Hid (Tr b A2 s (BIz) w W):=by show Tr _ _ _ _ _ _;rw [hW,hA2];exact tr_new h _
  have HW:Hid (W = w.alloc (BIz)/\A2 = w.heap.size):=⟨hW,hA2⟩
  have HZ:Hid (s.size<=1048576):=hs
  have HZ':Hid (s.size<=maxLen):=Nat.le_trans hs (by decide)
  clear h hs hW hA2
  go_enter Tryz.func29,Tryz.ntmps29
  go_wp2_with fail
  rw [← HW.out.1,← HW.out.2]
  refine (rest_any b s _ HT0.out.tx.box HZ'.out).mono ?_
  rintro e w1 ⟨rfl,hx⟩
  have HT1:Hid (Tr b A2 (Sh.dr s.size s) (BIz) w w1):=HT0.out.call hx
  clear hx HT0
  go_wp2_with fail
  refine (Ks.unpack_any s _ HZ.out).mono ?_
  rintro e w2 ⟨r,rfl,hown,hb⟩
  have HT2:Hid (Tr b A2 (Sh.dr s.size s) (BIz) w w2):=HT1.out.below hb
  obtain ⟨l,hl⟩:∃ l,Ks.Pl.unpOut s.data.toList = l:=⟨_,rfl⟩
  have HL:Hid (Ks.Pl.unpOut s.data.toList = l):=hl
  have HLS:Hid (∀ f∈l,f.2.size<=maxLen):=by
    intro f hf
    rw [← hl] at hf
    exact Nat.le_trans (Ks.Rs.Ak.parse_small _ _ _ f hf) (by decide)
  rw [hl] at hown
  obtain ⟨ao,cap,rfl,hm,hx⟩:=flds (Ks.FieldsAt.of_own hown)
  have hmm:l.length<=1048576:=by
    have:=Ks.Rs.Ak.parse_len s.data.toList.length 1 s.data.toList
    rw [← hl]
    have e:s.data.toList.length = s.size:=by simp
    unfold Ks.Pl.unpOut
    have:=HZ.out
    omega
  obtain ⟨n,hn⟩:∃ n,l.length = n:=⟨_,rfl⟩
  rw [hn] at hmm ⊢
  have HN:Hid (l.length = n):=hn
  have HX:Hid (∀ i x,l[i]? = some x->∃ b off,ao = some ⟨b,off,none⟩/\b < w2.heap.size/\w2.cell? ⟨b,off + i * 2,none⟩ = some (.int .i64 x.1)/\w2.cell? ⟨b,off + i * 2 + 1,none⟩ = some (.string x.2)):=hx
  have HW2:Hid (W.heap.size<=w2.heap.size):=by
    have h1:=HT1.out.tx.gr.size
    have h2:=hb.size
    have h3:=(Array.getElem?_eq_some_iff.1 HT1.out.at_).1
    have h4:=HW.out.1
    show W.heap.size<=_
    rw [h4]
    simp
    have h5:=HW.out.2
    omega
  clear hown hb hl hn hx hm HT1 HW
  go_wp2_with fail
  obtain ⟨A,hA⟩:∃ n,n = w2.heap.size:=⟨_,rfl⟩
  obtain ⟨W3,hW3⟩:∃ V,V = w2.alloc BIz:=⟨_,rfl⟩
  have HR:Hid (RI A A zeroI (.slice none 0 0) (.slice none 0 0) w2 W3):=by
    show RI _ _ _ _ _ _ _
    rw [hW3,hA]
    exact ⟨heap_alloc_new w2 _,Row.nil _ _ _ _,Row.nil _ _ _ _,Nat.le_refl _,(Below.refl _ _).alloc (Nat.le_refl _) _,Nat.le_refl _⟩
  rw [← hW3,← hA]
  have HA:Hid (A = w2.heap.size):=hA
  clear hW3 hA
  go_loopw [19] (fun i wr=>∃ (k:Nat) (x:Ino) (rv ev:Value),k<=n/\i = .int .i64 k/\Hid (RI A A x rv ev w2 wr)/\Hid (x = (l.take k).foldl Sh.stI zeroI)) (fun i _=>n - (intOf i).toNat)
  case atStart=>exact ⟨0,zeroI,_,_,Nat.zero_le _,rfl,HR,by rw [List.take_zero];rfl⟩
  case round =>
    obtain ⟨k,x,rv,ev,hk,rfl,HI,HE⟩:=hrel
    by_cases hlt:k < n
    · obtain ⟨⟨tag, v⟩, hf⟩ : ∃ f, l[k]? = some f := ⟨_, List.getElem?_eq_getElem (by rw [HN.out]; exact hlt)⟩
      obtain ⟨b0,off,rfl,hb0,c0',c1'⟩:=HX.out k _ hf
      have hbA:b0 < A:=by rw [HA.out];exact hb0
      have c0:wr.cell? ⟨b0,off + k * 2,none⟩ = some (.int .i64 tag):=(HI.out.bl.cell (p:=⟨b0,off + k * 2,none⟩) hbA).trans c0'
      have c1:wr.cell? ⟨b0,off + k * 2 + 1,none⟩ = some (.string v):=(HI.out.bl.cell (p:=⟨b0,off + k * 2 + 1,none⟩) hbA).trans c1'
      have HV:Hid (v.size<=maxLen):=HLS.out _ (List.mem_of_getElem? hf)
      have HNX:Hid ((l.take (k + 1)).foldl Sh.stI zeroI = Sh.stI x (tag,v)):=by show _ = _;rw [Sh.fold_take _ _ _ hf,← HE.out]
      have HLN:Hid (x.runs.length<=k/\x.ents.length<=k):=by
        show _/\_
        have h1:=Sh.stI_len (l.take k) zeroI
        rw [← HE.out] at h1
        have h2:(l.take k).length<=k:=by rw [List.length_take];omega
        have h3:zeroI.runs.length = 0/\zeroI.ents.length = 0:=⟨rfl,rfl⟩
        omega
      obtain ⟨B,hB⟩:∃ n,n = wr.heap.size + 1:=⟨_,rfl⟩
      obtain ⟨W4,hW4⟩:∃ V,V = (wr.alloc (.cells #[.int .i64 tag,.string v] 70)).alloc (BT v):=⟨_,rfl⟩
      have HI4:Hid (RI A A x rv ev w2 W4):=by show RI _ _ _ _ _ _ _;rw [hW4];exact (HI.out.up ((Below.refl _ _).alloc (Nat.le_refl _) _)).up ((Below.refl _ _).alloc (Nat.le_refl _) _)
      have HB4:Hid (W4.heap[B]? = some (BT v)):=by show _ = _;rw [hW4,hB];have h:=heap_alloc_new (wr.alloc (.cells #[.int .i64 tag,.string v] 70)) (BT v);simpa using h
      have hAB:A<=B:=by have:=HI.out.sz;omega
      have hlt':(k:Int) < (n:Int):=by omega
      clear c0' c1' hf hb0 HI
      by_cases e1:tag = 1
      · subst e1
        have t1:((1:Int) == 1) = true:=rfl
        go_wp2_with fail
        rw [← hW4,← hB]
        clear hW4 hB c0 c1
        refine (num_any' B 6 v _ HB4.out HV.out).mono ?_
        rintro e w5 ⟨rfl,hx⟩
        have HI5:Hid (RI A A x rv ev w2 w5):=HI4.out.tx HB4.out hAB hx
        have HI6:Hid (RI A A { x with gen:=Sh.nm 6 v } rv ev w2 (w5.setCell ⟨A,0,none⟩ (.int .i64 (Sh.nm 6 v)))):=HI5.out.set rfl rfl rfl
        have HB6:Hid ((w5.setCell ⟨A,0,none⟩ (.int .i64 (Sh.nm 6 v))).heap[B]? = some (BT (Sh.dr 6 v))):=tx_off HI5.out hx.box _ _
        have HV6:Hid ((Sh.dr 6 v).size<=maxLen):=Nat.le_trans (Sh.dr_size _ _) HV.out
        have f0:=fr_at HI5.out.box
        have q0:=cell_at HI5.out.box 0
        simp at q0
        clear hx HI4 HB4
        go_wp2_with fail
        clear f0 q0 HI5
        refine (vattr_any B (Sh.dr 6 v) _ HB6.out HV6.out).mono ?_
        rintro e w7 ⟨rfl,hx⟩
        obtain ⟨⟨a0,a1,a2,a3⟩,ha⟩:∃ a,Sh.rdA (Sh.dr 6 v) = a:=⟨_,rfl⟩
        have HAA:Hid (Sh.rdA (Sh.dr 6 v) = (a0,a1,a2,a3)):=ha
        rw [ha]
        have HI7:Hid (RI A A { x with gen:=Sh.nm 6 v } rv ev w2 w7):=HI6.out.tx HB6.out hAB hx
        have HI8:Hid (RI A A { x with gen:=Sh.nm 6 v,kind:=a0,links:=a1,size:=a2,stamp:=a3 } rv ev w2 ((((w7.setCell ⟨A,1,none⟩ (.int .i64 a0)).setCell ⟨A,2,none⟩ (.int .i64 a1)).setCell ⟨A,3,none⟩ (.int .i64 a2)).setCell ⟨A,4,none⟩ (.int .i64 a3))) :=
          (((HI7.out.set (y:={ x with gen:=Sh.nm 6 v,kind:=a0 }) (k:=1) (u:=.int .i64 a0) rfl rfl rfl).set (y:={ x with gen:=Sh.nm 6 v,kind:=a0,links:=a1 }) (k:=2) (u:=.int .i64 a1) rfl rfl rfl).set (y:={ x with gen:=Sh.nm 6 v,kind:=a0,links:=a1,size:=a2 }) (k:=3) (u:=.int .i64 a2) rfl rfl rfl).set (k:=4) (u:=.int .i64 a3) rfl rfl rfl
        have HB8:Hid (((((w7.setCell ⟨A,1,none⟩ (.int .i64 a0)).setCell ⟨A,2,none⟩ (.int .i64 a1)).setCell ⟨A,3,none⟩ (.int .i64 a2)).setCell ⟨A,4,none⟩ (.int .i64 a3)).heap[B]? = some (BT (Sh.dr 12 (Sh.dr 6 v)))):=by
          have hne:B≠A:=tx_ne HI7.out hx.box
          show _ = _
          rw [Below.heap_setCell _ _ _ _ hne,Below.heap_setCell _ _ _ _ hne,Below.heap_setCell _ _ _ _ hne,Below.heap_setCell _ _ _ _ hne]
          exact hx.box
        have HV8:Hid ((Sh.dr 12 (Sh.dr 6 v)).size<=maxLen):=Nat.le_trans (Sh.dr_size _ _) HV6.out
        have f0:=fr_at HI7.out.box
        have q1:=cell_at HI7.out.box 1
        have q2:=cell_at HI7.out.box 2
        have q3:=cell_at HI7.out.box 3
        have q4:=cell_at HI7.out.box 4
        simp at q1 q2 q3 q4
        clear hx ha HI6 HB6
        go_wp2_with fail
        clear f0 q1 q2 q3 q4 HI7
        refine (num_any' B 6 _ _ HB8.out HV8.out).mono ?_
        rintro e w9 ⟨rfl,hx⟩
        have HI9:Hid (RI A A { x with gen:=Sh.nm 6 v,kind:=a0,links:=a1,size:=a2,stamp:=a3 } rv ev w2 w9):=HI8.out.tx HB8.out hAB hx
        have HI10:Hid (RI A A { x with gen:=Sh.nm 6 v,kind:=a0,links:=a1,size:=a2,stamp:=a3,next:=Sh.nm 6 (Sh.dr 12 (Sh.dr 6 v)) } rv ev w2 (w9.setCell ⟨A,7,none⟩ (.int .i64 (Sh.nm 6 (Sh.dr 12 (Sh.dr 6 v)))))):=HI9.out.set rfl rfl (by simp)
        have f0:=fr_at HI9.out.box
        have q7:=cell_at HI9.out.box 7
        simp at q7
        clear hx HI8 HB8
        go_wp2
        go_roundw
        case rel=>exact ⟨k + 1,_,rv,ev,by omega,by go_num,HI10,by show _ = _;rw [HNX.out];unfold Sh.stI;rw [if_pos rfl];simp only [HAA.out]⟩
        case measure=>simp [intOf];omega
      · have t1 : (tag == 1) = false := by simp [e1]
        by_cases e2:tag = 2
        · subst e2
          have t2:((2:Int) == 2) = true:=rfl
          clear e1
          have f9:=fr_at HI4.out.box
          have q9:=cell_at HI4.out.box 5
          simp at q9
          go_wp2_with fail
          rw [← hW4,← hB]
          clear hW4 hB c0 c1 f9 q9
          refine wp_region_any (by kernel_rfl) ?_
          change wpAny _ _ _ _ _ _ _ (World.drew _)
          refine wpAny_take (i:=0) (v:=?v1) rfl (by kernel_rfl) (by kernel_rfl) (by kernel_rfl) (fun _ _ _ h=>h) (Or.inl ⟨by rfl,?h1⟩) ?r1
          case h1=>(intro w;go_simp;try with_reducible rfl)
          try simp only [Act.put,List.setIfInBounds_toArray,List.set_cons_zero,List.set_cons_succ]
          refine wpAny_take (i:=2) (v:=?v2) rfl (by kernel_rfl) (by kernel_rfl) (by kernel_rfl) (fun _ _ _ h=>h) (Or.inl ⟨by rfl,?h2⟩) ?r2
          case h2=>(intro w;go_simp;try with_reducible rfl)
          try simp only [Act.put,List.setIfInBounds_toArray,List.set_cons_zero,List.set_cons_succ]
          have HS:(fun V:World=>V.cell? ⟨A,5,none⟩ = some rv) W4.drew:=by have h:=cell_at HI4.out.drew.box 5;simpa using h
          refine Fst.any_of (late:=fun k=>[7].contains k) (S:=fun V:World=>V.cell? ⟨A,5,none⟩ = some rv) _ _ _ _ ?_
          refine Fst.take (ls:=[7]) (i:=1) (v:=?v3) rfl (by kernel_rfl) (by kernel_rfl) (by kernel_rfl) (by kernel_rfl) (by kernel_rfl) (fun _ _ _ h=>h) (Or.inl ⟨by rfl,?h3⟩) HS ?r3
          case h3=>(intro V s5;go_simp;try with_reducible rfl)
          try simp only [Act.put,List.setIfInBounds_toArray,List.set_cons_zero,List.set_cons_succ]
          clear HS
          refine Fst.one (late:=fun k=>[7].contains k) (i:=3) (by kernel_rfl) rfl (fun K hK=>?_)
          go_simp
          refine (vrun_any B v W4.drew HB4.out HV.out).mono ?_
          rintro e w5 ⟨rfl,t5,hx⟩
          have HI5:Hid (RI A A x rv ev w2 w5):=HI4.out.drew.tx HB4.out hAB hx
          clear hx HI4 HB4
          (try go_wp2_with fail)
          refine hK _ _ (by have h:=cell_at HI5.out.box 5;simpa using h) ?_
          clear hK K
          try simp only [Act.put,List.setIfInBounds_toArray,List.set_cons_zero,List.set_cons_succ]
          refine Fst.one (late:=fun k=>[7].contains k) (i:=4) (by kernel_rfl) rfl (fun K hK=>?_)
          go_simp
          (try go_wp2_with fail)
          obtain ⟨W6,hW6⟩:∃ V,V = w5.alloc (.cells #[.int .i64 (Sh.rdR v).1,.string (Sh.rdR v).2] 67):=⟨_,rfl⟩
          have HI6:Hid (RI A A x rv ev w2 W6):=by show RI _ _ _ _ _ _ _;rw [hW6];exact HI5.out.up ((Below.refl _ _).alloc (Nat.le_refl _) _)
          have HX6:Hid (W6.heap[w5.heap.size]? = some (.cells #[.int .i64 (Sh.rdR v).1,.string (Sh.rdR v).2] 67)):=by show _ = _;rw [hW6];exact heap_alloc_new _ _
          rw [← hW6]
          refine hK _ _ (by have h:=cell_at HI6.out.box 5;simpa using h) ?_
          clear hK K hW6
          try simp only [Act.put,List.setIfInBounds_toArray,List.set_cons_zero,List.set_cons_succ]
          refine Fst.one (late:=fun k=>[7].contains k) (i:=5) (by kernel_rfl) rfl (fun K hK=>?_)
          obtain ⟨i0,hi,hz0,hz1,hz2⟩:=info_parts infoR
          refine step_row rfl _ _ _ rfl ER (fun _=>True) A 67 i0 (.agg #[.int .i64 0,.string ⟨#[]⟩]) 24 Tryz.underlying49 hi hz0 hz1 hz2 rfl rv x.runs rfl HI6.out.rows _ [Sh.rdR v] rfl (at_run HX6.out) (by have:=HLN.out;unfold maxLen;simp;omega) (by have:=HLN.out;simp;omega) HI6.out.sz ?_
          intro v9 w9 g1 g2 _
          obtain ⟨a9,m9,c9,rfl⟩:∃ a m c,v9 = .slice a m c:=by rcases g1 with ⟨rfl,-⟩ | ⟨g,cap,cur,rfl,-⟩ <;> exact ⟨_,_,_,rfl⟩
          have HI7:Hid (RI A A { x with runs:=x.runs ++ [Sh.rdR v] } (.slice a9 m9 c9) ev w2 (w9.setCell ⟨A,5,none⟩ (.slice a9 m9 c9))):=(HI6.out.run g1 g2).1
          have HI8:Hid (w9.heap[A]? = some (BI x rv ev)):=(HI6.out.run g1 g2).2
          have HS:(fun V:World=>V.cell? ⟨A,5,none⟩ = some rv) w9:=by have h:=cell_at HI8.out 5;simpa using h
          refine hK _ _ HS ?_
          clear hK K HI6 HX6 HI5
          try simp only [Act.put,List.setIfInBounds_toArray,List.set_cons_zero,List.set_cons_succ]
          refine Fst.take (ls:=[7]) (i:=6) (v:=?v6) rfl (by kernel_rfl) (by kernel_rfl) (by kernel_rfl) (by kernel_rfl) (by kernel_rfl) (fun _ _ _ h=>h) (Or.inl ⟨by rfl,?h6⟩) HS ?r6
          case h6=>(intro V s5;go_simp;try with_reducible rfl)
          try simp only [Act.put,List.setIfInBounds_toArray,List.set_cons_zero,List.set_cons_succ]
          refine Fst.rest (by kernel_rfl) ?_
          have f8:=fr_at HI8.out
          have q8:=cell_at HI8.out 5
          simp at q8
          clear HS HI8
          refine wpAny_ready (rs:=[7]) (by kernel_rfl) (by simp) ?_
          refine AllReady.cons rfl (fun K hK=>?_) AllReady.nil
          go_simp
          (try go_wp2_with fail)
          first | (refine hK _ _ ?_;clear hK K) | skip
          try simp only [Act.put,List.setIfInBounds_toArray,List.set_cons_zero,List.set_cons_succ]
          refine wpAny_done (by kernel_rfl) ?_ _
          clear q8 f8
          go_wp2
          go_roundw
          case rel=>exact ⟨k + 1,_,.slice a9 m9 c9,ev,by omega,by go_num,HI7,by show _ = _;rw [HNX.out];unfold Sh.stI;simp⟩
          case measure=>simp [intOf];omega
        · have t2 : (tag == 2) = false := by simp [e2]
          by_cases e3:tag = 3
          · subst e3
            have t3:((3:Int) == 3) = true:=rfl
            clear e1 e2
            have f9:=fr_at HI4.out.box
            have q9:=cell_at HI4.out.box 6
            simp at q9
            go_wp2_with fail
            rw [← hW4,← hB]
            clear hW4 hB c0 c1 f9 q9
            refine wp_region_any (by kernel_rfl) ?_
            change wpAny _ _ _ _ _ _ _ (World.drew _)
            refine wpAny_take (i:=0) (v:=?y1) rfl (by kernel_rfl) (by kernel_rfl) (by kernel_rfl) (fun _ _ _ h=>h) (Or.inl ⟨by rfl,?z1⟩) ?s1
            case z1=>(intro w;go_simp;try with_reducible rfl)
            try simp only [Act.put,List.setIfInBounds_toArray,List.set_cons_zero,List.set_cons_succ]
            refine wpAny_take (i:=2) (v:=?y2) rfl (by kernel_rfl) (by kernel_rfl) (by kernel_rfl) (fun _ _ _ h=>h) (Or.inl ⟨by rfl,?z2⟩) ?s2
            case z2=>(intro w;go_simp;try with_reducible rfl)
            try simp only [Act.put,List.setIfInBounds_toArray,List.set_cons_zero,List.set_cons_succ]
            have HS:(fun V:World=>V.cell? ⟨A,6,none⟩ = some ev) W4.drew:=by have h:=cell_at HI4.out.drew.box 6;simpa using h
            refine Fst.any_of (late:=fun k=>[7].contains k) (S:=fun V:World=>V.cell? ⟨A,6,none⟩ = some ev) _ _ _ _ ?_
            refine Fst.take (ls:=[7]) (i:=1) (v:=?y3) rfl (by kernel_rfl) (by kernel_rfl) (by kernel_rfl) (by kernel_rfl) (by kernel_rfl) (fun _ _ _ h=>h) (Or.inl ⟨by rfl,?z3⟩) HS ?s3
            case z3=>(intro V s5;go_simp;try with_reducible rfl)
            try simp only [Act.put,List.setIfInBounds_toArray,List.set_cons_zero,List.set_cons_succ]
            clear HS
            refine Fst.one (late:=fun k=>[7].contains k) (i:=3) (by kernel_rfl) rfl (fun K hK=>?_)
            go_simp
            refine (ventry_any B v W4.drew HB4.out HV.out).mono ?_
            rintro e w5 ⟨rfl,t5,hx⟩
            have HI5:Hid (RI A A x rv ev w2 w5):=HI4.out.drew.tx HB4.out hAB hx
            clear hx HI4 HB4
            (try go_wp2_with fail)
            refine hK _ _ (by have h:=cell_at HI5.out.box 6;simpa using h) ?_
            clear hK K
            try simp only [Act.put,List.setIfInBounds_toArray,List.set_cons_zero,List.set_cons_succ]
            refine Fst.one (late:=fun k=>[7].contains k) (i:=4) (by kernel_rfl) rfl (fun K hK=>?_)
            go_simp
            (try go_wp2_with fail)
            obtain ⟨W6,hW6⟩:∃ V,V = w5.alloc (.cells #[.string (Sh.rdE v).1,.int .i64 (Sh.rdE v).2.1,.int .i64 (Sh.rdE v).2.2.1,.int .i64 (Sh.rdE v).2.2.2] 91):=⟨_,rfl⟩
            have HI6:Hid (RI A A x rv ev w2 W6):=by show RI _ _ _ _ _ _ _;rw [hW6];exact HI5.out.up ((Below.refl _ _).alloc (Nat.le_refl _) _)
            have HX6:Hid (W6.heap[w5.heap.size]? = some (.cells #[.string (Sh.rdE v).1,.int .i64 (Sh.rdE v).2.1,.int .i64 (Sh.rdE v).2.2.1,.int .i64 (Sh.rdE v).2.2.2] 91)):=by show _ = _;rw [hW6];exact heap_alloc_new _ _
            rw [← hW6]
            refine hK _ _ (by have h:=cell_at HI6.out.box 6;simpa using h) ?_
            clear hK K hW6
            try simp only [Act.put,List.setIfInBounds_toArray,List.set_cons_zero,List.set_cons_succ]
            refine Fst.one (late:=fun k=>[7].contains k) (i:=5) (by kernel_rfl) rfl (fun K hK=>?_)
            obtain ⟨i0,hi,hz0,hz1,hz2⟩:=info_parts infoE
            refine step_row rfl _ _ _ rfl EE (fun _=>True) A 91 i0 (.agg #[.string ⟨#[]⟩,.int .i64 0,.int .i64 0,.int .i64 0]) 40 Tryz.underlying50 hi hz0 hz1 hz2 rfl ev x.ents rfl HI6.out.rowE _ [Sh.rdE v] rfl (at_ent HX6.out) (by have:=HLN.out;unfold maxLen;simp;omega) (by have:=HLN.out;simp;omega) HI6.out.sz ?_
            intro v9 w9 g1 g2 _
            obtain ⟨a9,m9,c9,rfl⟩:∃ a m c,v9 = .slice a m c:=by rcases g1 with ⟨rfl,-⟩ | ⟨g,cap,cur,rfl,-⟩ <;> exact ⟨_,_,_,rfl⟩
            have HI7:Hid (RI A A { x with ents:=x.ents ++ [Sh.rdE v] } rv (.slice a9 m9 c9) w2 (w9.setCell ⟨A,6,none⟩ (.slice a9 m9 c9))):=(HI6.out.ent g1 g2).1
            have HI8:Hid (w9.heap[A]? = some (BI x rv ev)):=(HI6.out.ent g1 g2).2
            have HS:(fun V:World=>V.cell? ⟨A,6,none⟩ = some ev) w9:=by have h:=cell_at HI8.out 6;simpa using h
            refine hK _ _ HS ?_
            clear hK K HI6 HX6 HI5
            try simp only [Act.put,List.setIfInBounds_toArray,List.set_cons_zero,List.set_cons_succ]
            refine Fst.take (ls:=[7]) (i:=6) (v:=?y6) rfl (by kernel_rfl) (by kernel_rfl) (by kernel_rfl) (by kernel_rfl) (by kernel_rfl) (fun _ _ _ h=>h) (Or.inl ⟨by rfl,?z6⟩) HS ?s6
            case z6=>(intro V s5;go_simp;try with_reducible rfl)
            try simp only [Act.put,List.setIfInBounds_toArray,List.set_cons_zero,List.set_cons_succ]
            refine Fst.rest (by kernel_rfl) ?_
            have f8:=fr_at HI8.out
            have q8:=cell_at HI8.out 6
            simp at q8
            clear HS HI8
            refine wpAny_ready (rs:=[7]) (by kernel_rfl) (by simp) ?_
            refine AllReady.cons rfl (fun K hK=>?_) AllReady.nil
            go_simp
            (try go_wp2_with fail)
            first | (refine hK _ _ ?_;clear hK K) | skip
            try simp only [Act.put,List.setIfInBounds_toArray,List.set_cons_zero,List.set_cons_succ]
            refine wpAny_done (by kernel_rfl) ?_ _
            clear q8 f8
            go_wp2
            go_roundw
            case rel=>exact ⟨k + 1,_,rv,.slice a9 m9 c9,by omega,by go_num,HI7,by show _ = _;rw [HNX.out];unfold Sh.stI;simp⟩
            case measure=>simp [intOf];omega
          · have t3 : (tag == 3) = false := by simp [e3]
            have HNN:Hid (Sh.stI x (tag,v) = x):=by show Sh.stI x (tag,v) = x;unfold Sh.stI;rw [if_neg e1,if_neg e2,if_neg e3]
            have HE2:Hid (x = (l.take (k + 1)).foldl Sh.stI zeroI):=by show _ = _;rw [HNX.out,HNN.out]
            clear e1 e2 e3 HNX HNN HE
            go_wp2
            go_roundw
            case rel=>exact ⟨k + 1,x,rv,ev,by omega,by go_num,by rw [← hW4];exact HI4.out,HE2⟩
            case measure=>simp [intOf];omega
    · obtain rfl : k = n := by omega
      have HXX:Hid (Sh.rdI s = x):=by
        show _ = _
        unfold Sh.rdI
        rw [HL.out,HE.out,List.take_of_length_le (by rw [HN.out];exact Nat.le_refl _)]
      obtain ⟨ra,rn,rc,rfl⟩:∃ a m c,rv = .slice a m c:=by rcases HI.out.rows with ⟨rfl,-⟩ | ⟨g,cap,cur,rfl,-⟩ <;> exact ⟨_,_,_,rfl⟩
      obtain ⟨ea,en,ec,rfl⟩:∃ a m c,ev = .slice a m c:=by rcases HI.out.rowE with ⟨rfl,-⟩ | ⟨g,cap,cur,rfl,-⟩ <;> exact ⟨_,_,_,rfl⟩
      have HTr:Hid (Tr b A2 (Sh.dr s.size s) BIz w wr):=HT2.out.below (by rw [← HA.out];exact HI.out.bl)
      have b0:=cell_at HI.out.box 0
      have b1:=cell_at HI.out.box 1
      have b2:=cell_at HI.out.box 2
      have b3:=cell_at HI.out.box 3
      have b4:=cell_at HI.out.box 4
      have b5:=cell_at HI.out.box 5
      have b6:=cell_at HI.out.box 6
      have b7:=cell_at HI.out.box 7
      simp at b0 b1 b2 b3 b4 b5 b6 b7
      have f0:=fr_at HTr.out.at_
      have c0:=cell_at HTr.out.at_ 0
      have c1:=cell_at HTr.out.at_ 1
      have c2:=cell_at HTr.out.at_ 2
      have c3:=cell_at HTr.out.at_ 3
      have c4:=cell_at HTr.out.at_ 4
      have c5:=cell_at HTr.out.at_ 5
      have c6:=cell_at HTr.out.at_ 6
      have c7:=cell_at HTr.out.at_ 7
      simp at c0 c1 c2 c3 c4 c5 c6 c7
      have HF:Hid (Tr b A2 (Sh.dr s.size s) (BI x (.slice ra rn rc) (.slice ea en ec)) w ((((((((wr.setCell ⟨A2,0,none⟩ (.int .i64 x.gen)).setCell ⟨A2,1,none⟩ (.int .i64 x.kind)).setCell ⟨A2,2,none⟩ (.int .i64 x.links)).setCell ⟨A2,3,none⟩ (.int .i64 x.size)).setCell ⟨A2,4,none⟩ (.int .i64 x.stamp)).setCell ⟨A2,5,none⟩ (.slice ra rn rc)).setCell ⟨A2,6,none⟩ (.slice ea en ec)).setCell ⟨A2,7,none⟩ (.int .i64 x.next))):=((((((((HTr.out.set 0 (.int .i64 x.gen)).set 1 (.int .i64 x.kind)).set 2 (.int .i64 x.links)).set 3 (.int .i64 x.size)).set 4 (.int .i64 x.stamp)).set 5 (.slice ra rn rc)).set 6 (.slice ea en ec)).set 7 (.int .i64 x.next))
      have HAA:Hid (A2 < A):=by show A2 < A;rw [HA.out];exact (Array.getElem?_eq_some_iff.1 HT2.out.at_).1
      have HAw:Hid (w.heap.size<=A2):=HT2.out.new
      have hg:wr.grownBy ((((((((wr.setCell ⟨A2,0,none⟩ (.int .i64 x.gen)).setCell ⟨A2,1,none⟩ (.int .i64 x.kind)).setCell ⟨A2,2,none⟩ (.int .i64 x.links)).setCell ⟨A2,3,none⟩ (.int .i64 x.size)).setCell ⟨A2,4,none⟩ (.int .i64 x.stamp)).setCell ⟨A2,5,none⟩ (.slice ra rn rc)).setCell ⟨A2,6,none⟩ (.slice ea en ec)).setCell ⟨A2,7,none⟩ (.int .i64 x.next)) (some A2):=grown_trans (grown_trans (grown_trans (grown_trans (grown_trans (grown_trans (grown_trans (grs _ _ _ _) (grs _ _ _ _)) (grs _ _ _ _)) (grs _ _ _ _)) (grs _ _ _ _)) (grs _ _ _ _)) (grs _ _ _ _)) (grs _ _ _ _)
      have HRR:Hid (Row ER ((((((((wr.setCell ⟨A2,0,none⟩ (.int .i64 x.gen)).setCell ⟨A2,1,none⟩ (.int .i64 x.kind)).setCell ⟨A2,2,none⟩ (.int .i64 x.links)).setCell ⟨A2,3,none⟩ (.int .i64 x.size)).setCell ⟨A2,4,none⟩ (.int .i64 x.stamp)).setCell ⟨A2,5,none⟩ (.slice ra rn rc)).setCell ⟨A2,6,none⟩ (.slice ea en ec)).setCell ⟨A2,7,none⟩ (.int .i64 x.next)) w.heap.size 67 (.slice ra rn rc) x.runs):=(HI.out.rows.kept hg (.inr fun e=>by have:=(HI.out.rows.lt _ e).1;have:=HAA.out;omega)).low (by have:=HAA.out;have:=HAw.out;omega)
      have HRE:Hid (Row EE ((((((((wr.setCell ⟨A2,0,none⟩ (.int .i64 x.gen)).setCell ⟨A2,1,none⟩ (.int .i64 x.kind)).setCell ⟨A2,2,none⟩ (.int .i64 x.links)).setCell ⟨A2,3,none⟩ (.int .i64 x.size)).setCell ⟨A2,4,none⟩ (.int .i64 x.stamp)).setCell ⟨A2,5,none⟩ (.slice ra rn rc)).setCell ⟨A2,6,none⟩ (.slice ea en ec)).setCell ⟨A2,7,none⟩ (.int .i64 x.next)) w.heap.size 91 (.slice ea en ec) x.ents):=(HI.out.rowE.kept hg (.inr fun e=>by have:=(HI.out.rowE.lt _ e).1;have:=HAA.out;omega)).low (by have:=HAA.out;have:=HAw.out;omega)
      clear hg
      go_wp2
      generalize ((((((((wr.setCell ⟨A2,0,none⟩ (.int .i64 x.gen)).setCell ⟨A2,1,none⟩ (.int .i64 x.kind)).setCell ⟨A2,2,none⟩ (.int .i64 x.links)).setCell ⟨A2,3,none⟩ (.int .i64 x.size)).setCell ⟨A2,4,none⟩ (.int .i64 x.stamp)).setCell ⟨A2,5,none⟩ (.slice ra rn rc)).setCell ⟨A2,6,none⟩ (.slice ea en ec)).setCell ⟨A2,7,none⟩ (.int .i64 x.next)) = WF at HF HRR HRE ⊢
      have d0:=cell_at HF.out.at_ 0
      have d1:=cell_at HF.out.at_ 1
      have d2:=cell_at HF.out.at_ 2
      have d3:=cell_at HF.out.at_ 3
      have d4:=cell_at HF.out.at_ 4
      have d5:=cell_at HF.out.at_ 5
      have d6:=cell_at HF.out.at_ 6
      have d7:=cell_at HF.out.at_ 7
      simp at d0 d1 d2 d3 d4 d5 d6 d7
      refine bodyPost_ret (v:=.agg #[.int .i64 x.gen,.int .i64 x.kind,.int .i64 x.links,.int .i64 x.size,.int .i64 x.stamp,.slice ra rn rc,.slice ea en ec,.int .i64 x.next]) ?_ rfl ?_
      · rw [results_cell1 rfl]
        go_simp
      · rw [HXX.out]
        exact ⟨_,_,rfl,HRR.out,HRE.out,_,HF.out.tx⟩
structure RS (n0 A:Nat) (x:Sh.Sta) (L:List Rw) (vi vo vz:Value) (w0 w:World):Prop where
  box:w.heap[A]? = some (BSt vi vo vz x.dn)
  eq:pl L = x.L
  rowI:Row EI w n0 52 vi L
  good:∀ r∈L,Row ER w n0 67 (.slice r.rp r.rn r.rc) r.i.runs/\Row EE w n0 91 (.slice r.ep r.en r.ec) r.i.ents
  rowO:Row Os.EO w n0 57 vo x.O
  rowZ:Row Es.ES w n0 60 vz x.Z
  base:n0<=A
  bl:Below n0 w0 w
  st:n0<=w0.heap.size
section
variable {n0 A:Nat} {x:Sh.Sta} {L:List Rw} {vi vo vz:Value} {w0 w w':World}
theorem RS.sz (h:RS n0 A x L vi vo vz w0 w):n0<=w.heap.size:=Nat.le_trans h.st h.bl.size
theorem RS.lt (h:RS n0 A x L vi vo vz w0 w):A < w.heap.size:=(Array.getElem?_eq_some_iff.1 h.box).1
theorem RS.up (h:RS n0 A x L vi vo vz w0 w) (hb:Below w.heap.size w w'):RS n0 A x L vi vo vz w0 w':=⟨(hb.block _ h.lt).trans h.box,h.eq,h.rowI.up hb,fun r hr=>⟨(h.good r hr).1.up hb,(h.good r hr).2.up hb⟩,h.rowO.up hb,h.rowZ.up hb,h.base,h.bl.trans (hb.mono h.sz),h.st⟩
theorem RS.drew (h:RS n0 A x L vi vo vz w0 w):RS n0 A x L vi vo vz w0 w.drew:=⟨h.box,h.eq,h.rowI,h.good,h.rowO,h.rowZ,h.base,h.bl.drew,h.st⟩
theorem RS.ne {b:Nat} {s:ByteArray} (h:RS n0 A x L vi vo vz w0 w) (hb:w.heap[b]? = some (BT s)):A≠b:=by
  rintro rfl
  rw [h.box] at hb
  cases hb
theorem RS.tx {b:Nat} {s t:ByteArray} (h:RS n0 A x L vi vo vz w0 w) (hb:w.heap[b]? = some (BT s)) (hn:n0<=b) (k:Tx b t w w'):RS n0 A x L vi vo vz w0 w' :=
  ⟨k.at h.box (h.ne hb),h.eq,h.rowI.kept k.gr (h.rowI.off hb (by decide)),fun r hr=>⟨(h.good r hr).1.kept k.gr ((h.good r hr).1.off hb (by decide)),(h.good r hr).2.kept k.gr ((h.good r hr).2.off hb (by decide))⟩,h.rowO.kept k.gr (h.rowO.off hb (by decide)),h.rowZ.kept k.gr (h.rowZ.off hb (by decide)),h.base,k.below h.bl hn h.sz,h.st⟩
/-- The box is written, the rows lie elsewhere. -/
theorem RS.put {y:Sh.Sta} {K:List Rw} {v0 v1 v2:Value} {k:Nat} {u:Value} {w9:World} (hb:w9.heap[A]? = some (BSt vi vo vz x.dn)) (hc:(#[vi,vo,vz,.int .i64 x.dn]:Array Value).setIfInBounds k u = #[v0,v1,v2,.int .i64 y.dn]) (he:pl K = y.L)
    (h1:Row EI w9 n0 52 v0 K) (h2:∀ r∈K,Row ER w9 n0 67 (.slice r.rp r.rn r.rc) r.i.runs/\Row EE w9 n0 91 (.slice r.ep r.en r.ec) r.i.ents) (h3:Row Os.EO w9 n0 57 v1 y.O) (h4:Row Es.ES w9 n0 60 v2 y.Z) (hA:n0<=A) (hB:Below n0 w0 w9) (hs:n0<=w9.heap.size) (hst:n0<=w0.heap.size):RS n0 A y K v0 v1 v2 w0 (w9.setCell ⟨A,k,none⟩ u):=by
  have hg:=grs w9 A k u
  refine ⟨?_,he,h1.kept hg (h1.off hb (by decide)),fun r hr=>⟨(h2 r hr).1.kept hg ((h2 r hr).1.off hb (by decide)),(h2 r hr).2.kept hg ((h2 r hr).2.off hb (by decide))⟩,h3.kept hg (h3.off hb (by decide)),h4.kept hg (h4.off hb (by decide)),hA,hB.grown hg hs (fun j hj=>by cases hj;exact hA),hst⟩
  have:=set_at hb k u
  rw [hc] at this
  exact this
theorem RS.done (h:RS n0 A x L vi vo vz w0 w) (d:Int):RS n0 A { x with dn:=d } L vi vo vz w0 (w.setCell ⟨A,3,none⟩ (.int .i64 d)) :=
  RS.put (y:={ x with dn:=d }) h.box (by simp) h.eq h.rowI h.good h.rowO h.rowZ h.base h.bl h.sz h.st
theorem RS.at_ {row:Option Nat} {w9:World} (h:RS n0 A x L vi vo vz w0 w) (hg:w.grownBy w9 row) (hr:row≠some A):w9.heap[A]? = some (BSt vi vo vz x.dn):=(hg.block A h.lt (fun e=>hr e.symm)).trans h.box
/-- An inode more. -/
theorem RS.ino {r:Rw} {v9:Value} {w9:World} (h:RS n0 A x L vi vo vz w0 w) (hr:Row EI w9 n0 52 v9 (L ++ [r])) (hg:w.grownBy w9 vi.ownBlock) (g1:Row ER w n0 67 (.slice r.rp r.rn r.rc) r.i.runs) (g2:Row EE w n0 91 (.slice r.ep r.en r.ec) r.i.ents) :
    RS n0 A { x with L:=x.L ++ [r.i] } (L ++ [r]) v9 vo vz w0 (w9.setCell ⟨A,0,none⟩ v9)/\w9.heap[A]? = some (BSt vi vo vz x.dn):=by
  have hb:=h.at_ hg (h.rowI.off' h.box (by decide))
  refine ⟨RS.put (y:={ x with L:=x.L ++ [r.i] }) hb (by simp) (by simp [pl,← h.eq]) hr (fun q hq=>?_) (h.rowO.kept hg (h.rowO.apart h.rowI (by decide))) (h.rowZ.kept hg (h.rowZ.apart h.rowI (by decide))) h.base (h.bl.grown hg h.sz (fun j hj=>(h.rowI.lt j hj).1)) (Nat.le_trans h.sz hg.size) h.st,hb⟩
  have gg:Row ER w n0 67 (.slice q.rp q.rn q.rc) q.i.runs/\Row EE w n0 91 (.slice q.ep q.en q.ec) q.i.ents:=by
    rcases List.mem_append.1 hq with h' | h'
    · exact h.good q h'
    · rw [List.mem_singleton] at h';subst h';exact ⟨g1,g2⟩
  exact ⟨gg.1.kept hg (gg.1.apart h.rowI (by decide)),gg.2.kept hg (gg.2.apart h.rowI (by decide))⟩
/-- An open more. -/
theorem RS.opn {r:Os.Opn} {v9:Value} {w9:World} (h:RS n0 A x L vi vo vz w0 w) (hr:Row Os.EO w9 n0 57 v9 (x.O ++ [r])) (hg:w.grownBy w9 vo.ownBlock) :
    RS n0 A { x with O:=x.O ++ [r] } L vi v9 vz w0 (w9.setCell ⟨A,1,none⟩ v9)/\w9.heap[A]? = some (BSt vi vo vz x.dn):=by
  have hb:=h.at_ hg (h.rowO.off' h.box (by decide))
  exact ⟨RS.put (y:={ x with O:=x.O ++ [r] }) hb (by simp) h.eq (h.rowI.kept hg (h.rowI.apart h.rowO (by decide))) (fun q hq=>⟨(h.good q hq).1.kept hg ((h.good q hq).1.apart h.rowO (by decide)),(h.good q hq).2.kept hg ((h.good q hq).2.apart h.rowO (by decide))⟩) hr (h.rowZ.kept hg (h.rowZ.apart h.rowO (by decide))) h.base (h.bl.grown hg h.sz (fun j hj=>(h.rowO.lt j hj).1)) (Nat.le_trans h.sz hg.size) h.st,hb⟩
/-- A seat more. -/
theorem RS.sea {r:Es.Sea} {v9:Value} {w9:World} (h:RS n0 A x L vi vo vz w0 w) (hr:Row Es.ES w9 n0 60 v9 (x.Z ++ [r])) (hg:w.grownBy w9 vz.ownBlock) :
    RS n0 A { x with Z:=x.Z ++ [r] } L vi vo v9 w0 (w9.setCell ⟨A,2,none⟩ v9)/\w9.heap[A]? = some (BSt vi vo vz x.dn):=by
  have hb:=h.at_ hg (h.rowZ.off' h.box (by decide))
  exact ⟨RS.put (y:={ x with Z:=x.Z ++ [r] }) hb (by simp) h.eq (h.rowI.kept hg (h.rowI.apart h.rowZ (by decide))) (fun q hq=>⟨(h.good q hq).1.kept hg ((h.good q hq).1.apart h.rowZ (by decide)),(h.good q hq).2.kept hg ((h.good q hq).2.apart h.rowZ (by decide))⟩) (h.rowO.kept hg (h.rowO.apart h.rowZ (by decide))) hr h.base (h.bl.grown hg h.sz (fun j hj=>(h.rowZ.lt j hj).1)) (Nat.le_trans h.sz hg.size) h.st,hb⟩
end
end Go.Proofs.YtggoccfddnpelaaGreat
namespace Go.Proofs.YtggoccfddnpelaaGreat
open Go.ChangeShapes Go.WideShapes Go.ChangeAt Go.RowKit Go.Deep
set_option maxRecDepth 100000
namespace Fo
/-- Behind the first cookie that is greater all are. -/
theorem rising {l:List Ent} {next:Int} (h:Right l next):∀ (j i:Nat) x y,i < j->l[i]? = some x->l[j]? = some y->x.2.1 < y.2.1:=fun j=>by
  induction j with
  | zero=>intro i x y hij;omega
  | succ j ih =>
    intro i x y hij hx hy
    have hjl:=(List.getElem?_eq_some_iff.1 hy).1
    have hz:l[j]? = some (l[j]'(by omega)):=List.getElem?_eq_getElem _
    have hg:=h.2.1 (j + 1) hjl y hy
    rw [lastC_succ hz] at hg
    by_cases e:i = j
    · subst e
      rw [hx] at hz
      cases hz
      omega
    · have := ih i x _ (by omega) hx hz
      omega
end Fo
end Go.Proofs.YtggoccfddnpelaaGreat
namespace Go.Proofs.YtggoccfddnpelaaGreat
open Go.ChangeShapes Go.WideShapes Go.ChangeAt Go.RowKit Go.Deep It
set_option maxRecDepth 100000
def Sp.toI (no:Int) (e:Sp.En):Bool:=e.2.2.1 == no
/-- How many entries name an inode's number. -/
def Sp.nmv (L:List Ino) (no:Int):Nat:=(Sp.allEnts L).countP (Sp.toI no)
theorem Sp.nmv_step {L:List Rw} {k:Nat} {x:Rw} (h:L[k]? = some x) (no:Int):Sp.nmv (pl (L.take (k + 1))) no = Sp.nmv (pl (L.take k)) no + x.i.ents.countP (Sp.toI no):=by
  rw [List.take_add_one,h]
  simp [Sp.nmv,Sp.allEnts,List.countP_append]
theorem cntP_step {α:Type} {q:α->Bool} {l:List α} {j:Nat} {e:α} (h:l[j]? = some e):(l.take (j + 1)).countP q = (l.take j).countP q + if q e = true then 1 else 0:=by
  rw [List.take_add_one,h]
  simp [List.countP_append,List.countP_cons]
theorem Sp.nmv_le {S:Nat->Prop} {w:World} {L:List Rw} (no:Int) (h:∀ x∈L,Good S w x):∀ k,k<=L.length->Sp.nmv (pl (L.take k)) no<=k * 3518437208883
  | 0,_=>by simp [Sp.nmv,Sp.allEnts]
  | k + 1, hk => by
    have hx:L[k]? = some L[k]:=List.getElem?_eq_getElem hk
    rw [Sp.nmv_step hx]
    have h1:=Sp.nmv_le no h k (by omega)
    have h2:=(h _ (List.mem_of_getElem? hx)).2.2.2.2
    have h3:L[k].i.ents.countP (Sp.toI no)<=L[k].i.ents.length:=List.countP_le_length
    omega
theorem tab_eight {w:World} {L:List Rw} {S:Nat->Prop} {ao:Option Addr} {n cap:Nat} (h:TabAt S w (.slice ao n cap) L) {i:Nat} {x:Rw} (hi:L[i]? = some x) :
    (∃ b off,ao = some ⟨b,off,none⟩/\b < w.heap.size/\eight w b (off + i * 8) x)/\x.en = x.i.ents.length/\x.i.ents.length<=3518437208883 /\
    ∀ j e,x.i.ents[j]? = some e->∃ b off,x.ep = some ⟨b,off,none⟩/\b < w.heap.size/\ent4 w b (off + j * 4) e:=by
  obtain ⟨ao',cap',hv,-,hx⟩:=h.open
  simp only [Value.slice.injEq] at hv
  obtain ⟨rfl,-,rfl⟩:=hv
  obtain ⟨h1,h2⟩:=hx i x hi
  refine ⟨h1,h2.len.2,h2.2.2.2.2,fun j e he=>?_⟩
  obtain ⟨eo,ecap,hev,-,hents⟩:=h2.2.1.open
  simp only [Value.slice.injEq] at hev
  obtain ⟨rfl,-,rfl⟩:=hev
  obtain ⟨b2,off2,h1,-,h3,hc⟩:=hents j e he
  exact ⟨b2,off2,h1,h3,hc 0 _ rfl,hc 1 _ rfl,hc 2 _ rfl,hc 3 _ rfl⟩
theorem ent4.below {w w':World} {b o B:Nat} {e:Sp.En} (h:ent4 w b o e) (hb:Below B w w') (hB:b < B):ent4 w' b o e :=
  ⟨(hb.cell (p:=⟨b,o,none⟩) hB).trans h.1,(hb.cell (p:=⟨b,o + 1,none⟩) hB).trans h.2.1,(hb.cell (p:=⟨b,o + 2,none⟩) hB).trans h.2.2.1,(hb.cell (p:=⟨b,o + 3,none⟩) hB).trans h.2.2.2⟩
set_option maxHeartbeats 2000000 in
theorem rnum_any {S : Nat → Prop} (v : Value) (L : List Rw) (no : Int) (w : World) (hv : TabAt S w v L) (hL : L.length ≤ 24) :
    Calls Tryz.prog 109 #[v,.int .i64 no] w fun e w'=>e = .returned (.int .i64 (Sp.nmv (pl L) no:Nat))/\Below w.heap.size w w':=by
  obtain ⟨ao,cap,rfl,-,-⟩:=hv.open
  obtain ⟨n,hn⟩:∃ n,L.length = n:=⟨_,rfl⟩
  have HLE:Hid (∀ k,k<=L.length->Sp.nmv (pl (L.take k)) no<=k * 3518437208883):=Sp.nmv_le no hv.2
  rw [hn] at hv hL ⊢
  have HN:Hid (L.length = n):=hn
  have HV:Hid (TabAt S w (.slice ao n cap) L):=hv
  obtain ⟨r,hr⟩:∃ r,Sp.nmv (pl L) no = r:=⟨_,rfl⟩
  have HR:Hid (Sp.nmv (pl L) no = r):=hr
  rw [hr]
  clear hr hn hv
  go_enter Tryz.func109,Tryz.ntmps109
  go_wp2
  go_loopw [5,12] (fun g i wr=>∃ k:Nat,k<=n/\i = .int .i64 k/\g = .int .i64 (Sp.nmv (pl (L.take k)) no:Nat)/\Hid (Below w.heap.size w wr)) (fun _ i _=>n - (intOf i).toNat)
  case atStart=>exact ⟨0,Nat.zero_le _,rfl,rfl,Below.refl _ _⟩
  case round =>
    obtain ⟨k,hk,rfl,rfl,HB⟩:=hrel
    have hsz:=HB.out.size
    obtain ⟨g,hg⟩:∃ g,Sp.nmv (pl (L.take k)) no = g:=⟨_,rfl⟩
    have HGG:Hid (Sp.nmv (pl (L.take k)) no = g):=hg
    have hgb:=HLE.out k (by rw [HN.out];exact hk)
    rw [hg] at hgb ⊢
    clear hg
    by_cases hlt:k < n
    · obtain ⟨x, hxk⟩ : ∃ x, L[k]? = some x := ⟨_, List.getElem?_eq_getElem (by rw [HN.out]; exact hlt)⟩
      have HXK:Hid (L[k]? = some x):=hxk
      obtain ⟨⟨b,off,rfl,hB,hc⟩,hen,hel,hes⟩:=tab_eight HV.out hxk
      have HES:Hid (∀ j e,x.i.ents[j]? = some e->∃ b off,x.ep = some ⟨b,off,none⟩/\b < w.heap.size/\ent4 w b (off + j * 4) e):=hes
      obtain ⟨c0,c1,c2,c3,c4,c5,c6,c7⟩:=hc.below HB.out hB
      have hlt':(k:Int) < (n:Int):=by omega
      obtain ⟨m,hm⟩:∃ m,x.en = m:=⟨_,rfl⟩
      obtain ⟨ep,hep⟩:∃ ep,x.ep = ep:=⟨_,rfl⟩
      have HM:Hid (x.i.ents.length = m):=hen.symm.trans hm
      have hmb:m<=3518437208883:=by rw [← HM.out];exact hel
      have HEP:Hid (x.ep = ep):=hep
      rw [hm,hep] at c6
      clear hc hxk hes hen hel hm hep
      go_wp2
      go_loopw [5,19] (fun t i wr=>∃ j:Nat,j<=m/\i = .int .i64 j/\t = .int .i64 ((g + (x.i.ents.take j).countP (Sp.toI no):Nat):Int)/\Hid (Below w.heap.size w wr)) (fun _ i _=>m - (intOf i).toNat)
      case atStart=>exact ⟨0,Nat.zero_le _,rfl,by simp,HB.out.alloc hsz _⟩
      case round =>
        obtain ⟨j,hj,rfl,rfl,HB2⟩:=hrel
        have hsz2:=HB2.out.size
        clear c0 c1 c2 c3 c4 c5 c6 c7
        obtain ⟨t,ht⟩:∃ t,(x.i.ents.take j).countP (Sp.toI no) = t:=⟨_,rfl⟩
        have HT:Hid ((x.i.ents.take j).countP (Sp.toI no) = t):=ht
        have htb:t<=j:=by rw [← ht];exact Nat.le_trans List.countP_le_length (by rw [List.length_take];omega)
        rw [ht]
        clear ht
        by_cases hlt2:j < m
        · obtain ⟨⟨s, ck, no2, gn⟩, hej⟩ : ∃ e, x.i.ents[j]? = some e := ⟨_, List.getElem?_eq_getElem (by rw [HM.out]; exact hlt2)⟩
          obtain ⟨b2,off2,hep,hb2,h4⟩:=HES.out j _ hej
          obtain rfl:ep = some ⟨b2,off2,none⟩:=HEP.out.symm.trans hep
          obtain ⟨d0,d1,d2,d3⟩:=h4.below HB2.out hb2
          simp only at d0 d1 d2 d3
          have hlt2':(j:Int) < (m:Int):=by omega
          have HST:Hid ((x.i.ents.take (j + 1)).countP (Sp.toI no) = t + if no2 = no then 1 else 0):=by
            show _ = _
            rw [cntP_step hej,HT.out]
            simp [Sp.toI]
          clear hej hep h4
          by_cases he:no2 = no
          · subst he
            rw [if_pos rfl] at HST
            go_wp2
            go_roundw
            case rel=>exact ⟨j + 1,by omega,by go_num,by rw [HST.out];go_num,HB2.out.alloc hsz2 _⟩
            case measure=>simp [intOf];omega
          · rw [if_neg he] at HST
            go_wp2
            go_roundw
            case rel=>exact ⟨j + 1,by omega,by go_num,by rw [HST.out];rfl,HB2.out.alloc hsz2 _⟩
            case measure=>simp [intOf];omega
        · obtain rfl : j = m := by omega
          have HT2:Hid (Sp.nmv (pl (L.take (k + 1))) no = g + t):=by
            show _ = _
            rw [Sp.nmv_step HXK.out,HGG.out,← HT.out,List.take_of_length_le (by rw [HM.out];exact Nat.le_refl _)]
          go_wp2
          go_roundw
          case rel=>exact ⟨k + 1,by omega,by go_num,by rw [HT2.out],HB2.out⟩
          case measure=>simp [intOf];omega
    · obtain rfl : k = n := by omega
      have HT:Hid (r = g):=by
        show r = g
        rw [← HGG.out,List.take_of_length_le (by rw [HN.out];exact Nat.le_refl _),HR.out]
      go_wp2
      go_ret
      rw [HT.out]
      exact ⟨rfl,HB.out⟩
end Go.Proofs.YtggoccfddnpelaaGreat
