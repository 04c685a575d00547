/- RRe, RRt0, RRt, FPlainH, NMe3, OConcat, OOpening, NOp, NRl, NCl, as one. -/
import Derived.Test.YtggoccfddnpelaaGreatR24
namespace Go.Proofs.YtggoccfddnpelaaGreat
open Go.ChangeShapes Go.WideShapes Go.ChangeAt Go.RowKit Go.Deep It
set_option maxRecDepth 100000
namespace Sp
/-- An inode is d entries away from another one. -/
def Rch (L:List Ino):Nat->Nat->Nat->Prop
  | 0,a,c=>a = c
  | d + 1,a,c=>∃ p,Rch L d a p/\p < L.length/\∃ e∈entsAt L p,e.2.2.1 = (c:Int)
def Sound (L:List Ino) (a:Nat) (f:Nat->Bool):Prop:=∀ c,c < L.length->f c = true->∃ d,Rch L d a c
def Full (L:List Ino) (a r:Nat) (f:Nat->Bool):Prop:=∀ d,d<=r->∀ c,c < L.length->Rch L d a c->f c = true
/-- In the middle of a round: what was set at its start, what is now, how far it is. -/
structure Mid (L:List Ino) (a:Nat) (f0 f:Nat->Bool) (k j:Nat):Prop where
  sound:Sound L a f
  mono:∀ c,f0 c = true->f c = true
  past:∀ i,i < k->f0 i = true->∀ e∈entsAt L i,∀ c:Nat,e.2.2.1 = (c:Int)->c < L.length->f c = true
  here:f0 k = true->∀ e∈(entsAt L k).take j,∀ c:Nat,e.2.2.1 = (c:Int)->c < L.length->f c = true
def setB (f:Nat->Bool) (c:Nat) (i:Nat):Bool:=if i = c then true else f i
theorem Mid.start {L:List Ino} {a:Nat} {f:Nat->Bool} (h:Sound L a f):Mid L a f f 0 0:=⟨h,fun _ h=>h,fun i hi=>by omega,fun _ e he=>by simp at he⟩
theorem setB_mono {f:Nat->Bool} {c i:Nat} (h:f i = true):setB f c i = true:=by unfold setB;split;rfl;exact h
theorem Mid.set {L:List Ino} {a:Nat} {f0 f:Nat->Bool} {k j c:Nat} {e:En} (h:Mid L a f0 f k j) (hk:k < L.length) (he:(entsAt L k)[j]? = some e) (hf:f k = true) (hc:e.2.2.1 = (c:Int)):Mid L a f0 (setB f c) k (j + 1):=by
  refine ⟨fun i hi hs=>?_,fun i hi=>setB_mono (h.mono i hi),fun i hi h0 e' he' c' hc' hl=>setB_mono (h.past i hi h0 e' he' c' hc' hl),fun h0 e' he' c' hc' hl=>?_⟩
  · by_cases hic : i = c
    · subst hic
      obtain ⟨d,hd⟩:=h.sound k hk hf
      exact ⟨d + 1,k,hd,hk,e,List.mem_of_getElem? he,hc⟩
    · unfold setB at hs
      rw [if_neg hic] at hs
      exact h.sound i hi hs
  · rw [List.take_add_one, he] at he'
    rcases List.mem_append.1 he' with he' | he'
    · exact setB_mono (h.here h0 e' he' c' hc' hl)
    · simp at he'
      subst he'
      unfold setB
      rw [if_pos (by omega)]
theorem Mid.skip {L:List Ino} {a:Nat} {f0 f:Nat->Bool} {k j:Nat} {e:En} (h:Mid L a f0 f k j) (he:(entsAt L k)[j]? = some e) (hf:f k = true->0<=e.2.2.1->(L.length:Int)<=e.2.2.1):Mid L a f0 f k (j + 1):=by
  refine ⟨h.sound,h.mono,h.past,fun h0 e' he' c' hc' hl=>?_⟩
  rw [List.take_add_one,he] at he'
  rcases List.mem_append.1 he' with he' | he'
  · exact h.here h0 e' he' c' hc' hl
  · simp at he'
    subst he'
    have:=hf (h.mono k h0) (by omega)
    omega
theorem Mid.next {L:List Ino} {a:Nat} {f0 f:Nat->Bool} {k j:Nat} (h:Mid L a f0 f k j) (hj:(entsAt L k).length<=j):Mid L a f0 f (k + 1) 0:=by
  refine ⟨h.sound,h.mono,fun i hi h0 e he c hc hl=>?_,fun _ e he=>by simp at he⟩
  by_cases hik:i = k
  · subst hik
    exact h.here h0 e (by rw [List.take_of_length_le hj];exact he) c hc hl
  · exact h.past i (by omega) h0 e he c hc hl
theorem Mid.done {L:List Ino} {a r:Nat} {f0 f:Nat->Bool} (h:Mid L a f0 f L.length 0) (hf:Full L a r f0):Full L a (r + 1) f:=by
  intro d hd c hc hr
  by_cases hd':d<=r
  · exact h.mono c (hf d hd' c hc hr)
  · have : d = r + 1 := by omega
    subst this
    obtain ⟨p,hp,hpl,e,he,hec⟩:=hr
    exact h.past p hpl (hf r (Nat.le_refl _) p hpl hp) e he c hec hc
theorem sound_one {L:List Ino} {a:Nat}:Sound L a (setB (fun _=>false) a):=fun c _ hs=>by
  unfold setB at hs
  split at hs
  · rename_i h;exact ⟨0,h.symm⟩
  · cases hs
theorem full_one {L:List Ino} {a:Nat}:Full L a 0 (setB (fun _=>false) a):=fun d hd c _ hr=>by
  have:d = 0:=by omega
  subst this
  have h:a = c:=hr
  unfold setB
  rw [if_pos h.symm]
end Sp
theorem bools_set {w:World} {b n:Nat} {f:Nat->Bool} (h:w.rowIs b 4 n (fun i=>.bool (f i))) (c:Nat):(w.setCell ⟨b,c,none⟩ (.bool true)).rowIs b 4 n (fun i=>.bool (Sp.setB f c i)) :=
  (h.set c (.bool true)).congr fun i _=>by unfold Sp.setB;split <;> rfl
theorem Tryz.info4:(Tryz.prog.info? 4).map (fun i=>(i.zero,i.size,i.bytes)) = some (some (.bool false),1,1):=by kernel_rfl
set_option maxHeartbeats 4000000 in
theorem reach_any {S : Nat → Prop} (v : Value) (L : List Rw) (no : Nat) (w : World) (hv : TabAt S w v L) (hL : L.length ≤ 1000) (hno : no < L.length) :
    Calls Tryz.prog 110 #[v,.int .i64 no] w fun e w'=>e = .returned (.slice (some ⟨w.heap.size,0,none⟩) L.length L.length)/\Below w.heap.size w w'/\∃ f:Nat->Bool,w'.rowIs w.heap.size 4 L.length (fun i=>.bool (f i))/\Sp.Sound (pl L) no f/\Sp.Full (pl L) no L.length f:=by
  obtain ⟨ao,cap,rfl,-,-⟩:=hv.open
  obtain ⟨n,hn⟩:∃ n,L.length = n:=⟨_,rfl⟩
  rw [hn] at hv hL hno ⊢
  have HN:Hid (L.length = n):=hn
  have HPL:Hid ((pl L).length = n):=by show _ = _;rw [List.length_map];exact hn
  have HV:Hid (TabAt S w (.slice ao n cap) L):=hv
  clear hn hv
  obtain ⟨ti,hti,htz⟩:=Option.map_eq_some_iff.1 Tryz.info4
  simp only [Prod.mk.injEq] at htz
  obtain ⟨htz,hts,htb⟩:=htz
  have htbb:ti.bytes * n<=281474976710656:=by rw [htb];omega
  obtain ⟨b,hb⟩:∃ b,w.heap.size = b:=⟨_,rfl⟩
  obtain ⟨W1,hW1⟩:∃ W1,W1 = w.alloc (.cells (madeCells #[.bool false] n) 4):=⟨_,rfl⟩
  have HB1:Hid (Below w.heap.size w W1):=by show Below _ _ _;rw [hW1];exact (Below.refl _ _).alloc (Nat.le_refl _) _
  have HR1:Hid (W1.rowIs b 4 n (fun i=>.bool ((fun _=>false) i))):=by show World.rowIs _ _ _ _ _;rw [hW1,← hb];exact World.rowIs_made w (.bool false) n 4
  have HBB:Hid (w.heap.size = b):=hb
  have hno':(no:Int) < (n:Int):=by omega
  go_enter Tryz.func110,Tryz.ntmps110
  have HW1:Hid (w.alloc (.cells (madeCells #[.bool false] n) 4) = W1):=hW1.symm
  clear hW1
  have c1:=HR1.out.cell hno
  have f1:=HR1.out.frozen no
  clear hb
  go_wp2_with (refine wpList_make_row _ rfl (.tmp 12) (.tmp 12) 156 rfl 4 ti (.bool false) rfl hti htz hts rfl .i64 .i64 n rfl rfl htbb (by omega) ?_;rw [HW1.out,HBB.out])
  obtain ⟨W2,hW2⟩:∃ W2,W2 = W1.setCell ⟨b,no,none⟩ (.bool true):=⟨_,rfl⟩
  have HB2:Hid (Below b w W2):=by show Below _ _ _;rw [hW2,← HBB.out];exact HB1.out.setCell (Nat.le_refl _) _
  have HR2:Hid (W2.rowIs b 4 n (fun i=>.bool (Sp.setB (fun _=>false) no i))):=by show World.rowIs _ _ _ _ _;rw [hW2];exact bools_set HR1.out no
  try rw [← hW2]
  clear c1 f1 hW2 hti htz hts htb htbb
  go_loopw [6] (fun i wr=>∃ (r:Nat) (f:Nat->Bool),r<=n/\i = .int .i64 r/\Hid (Sp.Sound (pl L) no f/\Sp.Full (pl L) no r f)/\Hid (wr.rowIs b 4 n (fun i=>.bool (f i)))/\Hid (Below b w wr)) (fun i _=>n - (intOf i).toNat)
  case atStart=>exact ⟨0,_,Nat.zero_le _,rfl,⟨Sp.sound_one,Sp.full_one⟩,HR2.out,HB2.out⟩
  case round =>
    obtain ⟨r,f0,hr,rfl,HF0,HR3,HB3⟩:=hrel
    by_cases hrn:r < n
    · have hrn' : (r : Int) < (n : Int) := by omega
      go_wp2
      go_loopw [25] (fun i wr=>∃ (k:Nat) (f:Nat->Bool),k<=n/\i = .int .i64 k/\Hid (Sp.Mid (pl L) no f0 f k 0)/\Hid (wr.rowIs b 4 n (fun i=>.bool (f i)))/\Hid (Below b w wr)) (fun i _=>n - (intOf i).toNat)
      case atStart=>exact ⟨0,f0,Nat.zero_le _,rfl,Sp.Mid.start HF0.out.1,HR3.out,HB3.out⟩
      case round =>
        obtain ⟨k,f,hk,rfl,HM0,HR4,HB4⟩:=hrel
        by_cases hkn:k < n
        · obtain ⟨x, hxk⟩ : ∃ x, L[k]? = some x := ⟨_, List.getElem?_eq_getElem (by rw [HN.out]; exact hkn)⟩
          obtain ⟨⟨b1,off,rfl,hB,hc⟩,hen,hel,hes⟩:=tab_eight HV.out hxk
          have HES:Hid (∀ j e,x.i.ents[j]? = some e->∃ b' off,x.ep = some ⟨b',off,none⟩/\b' < b/\ent4 w b' (off + j * 4) e):=by rw [← HBB.out];exact hes
          have HEA:Hid (Sp.entsAt (pl L) k = x.i.ents):=(ents_at hxk).1
          obtain ⟨c0,c1,c2,c3,c4,c5,c6,c7⟩:=hc.below HB4.out (by rw [← HBB.out];exact hB)
          have hkn':(k:Int) < (n:Int):=by omega
          obtain ⟨m,hm⟩:∃ m,x.en = m:=⟨_,rfl⟩
          obtain ⟨ep,hep⟩:∃ ep,x.ep = ep:=⟨_,rfl⟩
          have HM:Hid (x.i.ents.length = m):=hen.symm.trans hm
          have hmb:m<=3518437208883:=by rw [← HM.out];exact hel
          have HEP:Hid (x.ep = ep):=hep
          rw [hm,hep] at c6
          clear hc hxk hes hen hel hm hep
          go_wp2
          go_loopw [33] (fun i wr=>∃ (j:Nat) (f:Nat->Bool),j<=m/\i = .int .i64 j/\Hid (Sp.Mid (pl L) no f0 f k j)/\Hid (wr.rowIs b 4 n (fun i=>.bool (f i)))/\Hid (Below b w wr)) (fun i _=>m - (intOf i).toNat)
          case atStart=>exact ⟨0,f,Nat.zero_le _,rfl,HM0.out,HR4.out.alloc _,HB4.out.alloc (Nat.le_of_lt HR4.out.lt) _⟩
          case round =>
            obtain ⟨j,f5,hj,rfl,HM5,HR5,HB5⟩:=hrel
            have hlt5:=HR5.out.lt
            have hsz5:=Nat.le_of_lt hlt5
            clear c0 c1 c2 c3 c4 c5 c6 c7
            by_cases hjm:j < m
            · obtain ⟨⟨s, ck, no2, gn⟩, hej⟩ : ∃ e, x.i.ents[j]? = some e := ⟨_, List.getElem?_eq_getElem (by rw [HM.out]; exact hjm)⟩
              obtain ⟨b2,off2,hep,hb2,h4⟩:=HES.out j _ hej
              obtain rfl:ep = some ⟨b2,off2,none⟩:=HEP.out.symm.trans hep
              obtain ⟨d0,d1,d2,d3⟩:=h4.below HB5.out hb2
              simp only at d0 d1 d2 d3
              have hjm':(j:Int) < (m:Int):=by omega
              have HEJ:Hid ((Sp.entsAt (pl L) k)[j]? = some (s,ck,no2,gn)):=by rw [HEA.out];exact hej
              have q1:=HR5.out.cell hkn
              clear hej hep h4
              by_cases hset:f5 k = true/\0<=no2/\no2 < (n:Int)
              · obtain ⟨hs1, hs2, hs3⟩ := hset
                obtain ⟨c,rfl⟩:∃ c:Nat,no2 = (c:Int):=⟨no2.toNat,by omega⟩
                have hcn:c < n:=by omega
                rw [hs1] at q1
                have q2:=HR5.out.cell hcn
                have q3:=HR5.out.frozen c
                have HM6:Hid (Sp.Mid (pl L) no f0 (Sp.setB f5 c) k (j + 1)):=HM5.out.set (by rw [HPL.out];exact hkn) HEJ.out hs1 rfl
                clear hs1
                go_wp2
                go_roundw
                case rel=>exact ⟨j + 1,_,by omega,by go_num,HM6.out,by first | exact bools_set (HR5.out.alloc _) c | exact (bools_set HR5.out c).alloc _,by first | exact (HB5.out.alloc hsz5 _).setCell (Nat.le_refl _) _ | exact (HB5.out.setCell (Nat.le_refl _) _).alloc (by simp;exact hsz5) _⟩
                case measure=>simp [intOf];omega
              · have HM6 : Hid (Sp.Mid (pl L) no f0 f5 k (j + 1)) := HM5.out.skip HEJ.out (fun h1 h2 => by rw [HPL.out]; exact Int.not_lt.1 (fun h => hset ⟨h1, h2, h⟩))
                cases hfk:f5 k with
                | false =>
                  rw [hfk] at q1
                  clear hfk hset
                  go_wp2
                  go_roundw
                  case rel=>exact ⟨j + 1,_,by omega,by go_num,HM6.out,HR5.out.alloc _,HB5.out.alloc hsz5 _⟩
                  case measure=>simp [intOf];omega
                | true =>
                  rw [hfk] at q1
                  by_cases hs2:0<=no2
                  · have hs3 : ¬ no2 < (n : Int) := fun h => hset ⟨hfk, hs2, h⟩
                    clear hfk hset
                    go_wp2
                    go_roundw
                    case rel=>exact ⟨j + 1,_,by omega,by go_num,HM6.out,HR5.out.alloc _,HB5.out.alloc hsz5 _⟩
                    case measure=>simp [intOf];omega
                  · clear hfk hset
                    go_wp2
                    go_roundw
                    case rel=>exact ⟨j + 1,_,by omega,by go_num,HM6.out,HR5.out.alloc _,HB5.out.alloc hsz5 _⟩
                    case measure=>simp [intOf];omega
            · obtain rfl : m = j := by omega
              have HM6:Hid (Sp.Mid (pl L) no f0 f5 (k + 1) 0):=HM5.out.next (by rw [HEA.out,HM.out];exact Nat.le_refl _)
              go_wp2
              go_roundw
              case rel=>exact ⟨k + 1,_,by omega,by go_num,HM6.out,HR5.out,HB5.out⟩
              case measure=>simp [intOf];omega
        · obtain rfl : n = k := by omega
          have HF6:Hid (Sp.Sound (pl L) no f/\Sp.Full (pl L) no (r + 1) f):=⟨HM0.out.sound,Sp.Mid.done (by rw [HPL.out];exact HM0.out) HF0.out.2⟩
          go_wp2
          go_roundw
          case rel=>exact ⟨r + 1,_,by omega,by go_num,HF6.out,HR4.out,HB4.out⟩
          case measure=>simp [intOf];omega
    · obtain rfl : n = r := by omega
      go_wp2
      go_ret
      rw [HBB.out]
      exact ⟨rfl,HB3.out,f0,HR3.out,HF0.out.1,HF0.out.2⟩
end Go.Proofs.YtggoccfddnpelaaGreat
namespace Go.Proofs.YtggoccfddnpelaaGreat
open It
set_option maxRecDepth 100000
namespace Sp
/-- As many entries name an inode as should. -/
def num (L:List Ino) (i:Nat) (x:Ino):Prop:=(x.kind = 1->(nmv L i:Int) = x.links)/\(x.kind = 2->0 < i->(nmv L i:Int) = 1)/\(i = 0->(nmv L i:Int) = 0)
def okAt (L:List Ino) (i:Nat) (x:Ino):Prop:=fold x/\(x.kind = 2->∀ e∈x.ents,names L e.2.2.1 e.2.2.2 = true)/\num L i x
def okAll (L:List Ino):Prop:=∀ i x,L[i]? = some x->okAt L i x
/-- Where each entry names an inode, its number says which. -/
theorem nmv_cnt {L:List Ino} (hn:∀ e∈allEnts L,names L e.2.2.1 e.2.2.2 = true) {i:Nat} {x:Ino} (hx:L[i]? = some x):nmv L i = cnt L ((i:Int),x.gen):=by
  unfold nmv cnt
  refine List.countP_congr fun e he=>?_
  obtain ⟨j,y,hy,hno,hg,_⟩:=names_iff.1 (hn e he)
  simp only [toI,beq_iff_eq]
  constructor
  · intro h2
    have:j = i:=by omega
    subst this
    rw [hx] at hy
    cases hy
    exact Prod.ext h2 hg.symm
  · intro h2
    rw [h2]
theorem root_kind {L:List Ino} (h:It.right L = true) {x:Ino} (hx:L[0]? = some x):x.kind = 2:=by
  have hr:=(It.right_iff.1 h).2.1
  unfold rootB at hr
  cases L with
  | nil=>cases hr
  | cons y l =>
    simp at hx
    subst hx
    simp at hr
    exact hr
theorem isSp_ok {L:List Ino} (h:isSp L = true):okAll L:=by
  obtain ⟨h1,h2,h3,_⟩:=isSp_iff.1 h
  have hn:∀ e∈allEnts L,names L e.2.2.1 e.2.2.2 = true:=fun e he=>(ent_named h1 h3 he).1
  intro i x hx
  have hv:=(cntB_iff h1).1 h3 ((i:Int),x.gen)
  rw [← nmv_cnt hn hx,start_val h1] at hv
  have hl:lkOf L (i:Int) = x.links:=by
    unfold lkOf
    rw [show ((i:Int)).toNat = i by omega,hx,Option.getD_some]
  have hg0:i = 0->x.gen = gen0 L:=fun h0=>by
    subst h0
    unfold gen0
    rw [hx,Option.getD_some]
  refine ⟨h2 x (List.mem_of_getElem? hx),fun hk e he=>hn e (List.mem_flatMap.2 ⟨x,List.mem_of_getElem? hx,he⟩),fun hk=>?_,fun hk h0=>?_,fun h0=>?_⟩
  · rw [if_neg (fun he => by
      have:(i:Int) = 0:=congrArg Prod.fst he
      have hi:i = 0:=by omega
      subst hi
      have:=root_kind h1 hx
      omega),if_pos (names_iff.2 ⟨i,x,hx,rfl,rfl,by omega⟩),hl] at hv
    exact hv
  · rw [if_neg (fun he => by
      have:(i:Int) = 0:=congrArg Prod.fst he
      omega),if_pos (names_iff.2 ⟨i,x,hx,rfl,rfl,by omega⟩),hl,dir_links h1 hx hk] at hv
    exact hv
  · rw [if_pos (by rw [hg0 h0, h0]; rfl)] at hv
    exact hv
theorem ok_named {L:List Ino} (h:It.right L = true) (ho:okAll L):∀ e∈allEnts L,names L e.2.2.1 e.2.2.2 = true:=fun e he=>by
  obtain ⟨p,x,hx,hex⟩:=all_mem he
  exact (ho p x hx).2.1 (ents_dir h hx hex) e hex
theorem ok_folds {L:List Ino} (ho:okAll L):folds L:=fun x hx=>by
  obtain ⟨p,hp⟩:=List.mem_iff_getElem?.1 hx
  exact (ho p x hp).1
theorem ok_cntB {L : List Ino} (h : It.right L = true) (ho : okAll L) : cntB L = true := by
  have hn:=ok_named h ho
  refine (cntB_iff h).2 fun g=>?_
  rw [start_val h]
  have hlen:=right_len h
  have h0x:L[0]? = some L[0]:=List.getElem?_eq_getElem (by omega)
  by_cases h0:g = (0,gen0 L)
  · rw [if_pos h0]
    have h1:=(ho 0 _ h0x).2.2.2.2 rfl
    rw [nmv_cnt hn h0x] at h1
    have e:gen0 L = L[0].gen:=by unfold gen0;rw [h0x,Option.getD_some]
    rw [h0,e]
    exact h1
  · rw [if_neg h0]
    by_cases h1:names L g.1 g.2 = true
    · rw [if_pos h1]
      obtain ⟨i,x,hx,hno,hg,hk⟩:=names_iff.1 h1
      have eg:g = ((i:Int),x.gen):=Prod.ext hno hg.symm
      have hl:lkOf L g.1 = x.links:=by
        unfold lkOf
        rw [hno,show ((i:Int)).toNat = i by omega,hx,Option.getD_some]
      rw [hl,eg,← nmv_cnt hn hx]
      have hnum:=(ho i x hx).2.2
      have hone:=(It.right_iff.1 h).2.2 x (List.mem_of_getElem? hx)
      unfold one at hone
      simp only [Bool.and_eq_true] at hone
      by_cases hk2:x.kind = 2
      · rw [dir_links h hx hk2]
        refine hnum.2.1 hk2 ?_
        by_cases hi:i = 0
        · exfalso
          subst hi
          refine h0 (eg.trans ?_)
          unfold gen0
          rw [hx,Option.getD_some]
          rfl
        · omega
      · refine hnum.1 ?_
        rcases At.right_iff.1 hone.2.1 with ⟨h3,_⟩ | ⟨_,_,⟨h3,_⟩ | ⟨h3,_⟩⟩
        · exact (hk h3).elim
        · exact h3
        · exact (hk2 h3).elim
    · rw [if_neg h1]
      have:cnt L g = 0:=List.countP_eq_zero.2 fun e he hc=>h1 (by
        have e2:e.2.2 = g:=by simpa using hc
        rw [← e2]
        exact hn e he)
      rw [this]
      rfl
theorem rch_anc {L:List Ino} (h:It.right L = true) {a:Nat}:∀ (d c:Nat),Rch L d a c->dirAt L c = true->Anc L d a c
  | 0,c,hr,_=>hr
  | d + 1, c, hr, hd => by
    obtain ⟨p,hp,hpl,e,he,hec⟩:=hr
    have hx:L[p]? = some L[p]:=List.getElem?_eq_getElem hpl
    have hem:e∈L[p].ents:=by
      unfold entsAt at he
      rw [hx] at he
      exact he
    have hdp:dirAt L p = true:=by
      unfold dirAt
      rw [hx]
      simp [ents_dir h hx hem]
    exact ⟨p,rch_anc h d p hp hdp,⟨e,he,by simp [toNo,hec]⟩,hd⟩
theorem ents_lt {L:List Ino} {p:Nat} {e:En} (he:e∈entsAt L p):p < L.length:=by
  unfold entsAt at he
  split at he
  · rename_i x hx
    exact (List.getElem?_eq_some_iff.1 hx).1
  · cases he
theorem anc_rch {L:List Ino} {a:Nat}:∀ (d c:Nat),Anc L d a c->Rch L d a c
  | 0,c,h=>h
  | d + 1, c, h => by
    obtain ⟨p,hp,⟨e,he,hc⟩,_⟩:=h
    exact ⟨p,anc_rch d p hp,ents_lt he,e,he,by simpa [toNo] using hc⟩
/-- All folders that are reached are below, and the other way round. -/
theorem full_reach {L:List Ino} (h:It.right L = true) (ht:Tree L) {f:Nat->Bool} (hs:Sound L 0 f) (hf:Full L 0 L.length f):reachB L = true ↔ ∀ c,dirAt L c = true->f c = true:=by
  rw [reachB_iff ht (right_len h).2]
  constructor
  · intro hr c hd
    obtain ⟨d,ha⟩:=hr c hd
    exact hf d (Nat.le_of_lt (anc_lt ht ha)) c (dirAt_lt hd) (anc_rch d c ha)
  · intro hr c hd
    obtain ⟨d,ha⟩:=hs c (dirAt_lt hd) (hr c hd)
    exact ⟨d,rch_anc h d c ha hd⟩
theorem isSp_of {L:List Ino} (h:It.right L = true) (ho:okAll L) {f:Nat->Bool} (hs:Sound L 0 f) (hf:Full L 0 L.length f):isSp L = true ↔ ∀ c,dirAt L c = true->f c = true:=by
  rw [isSp_iff,← full_reach h (tree_of h (ok_folds ho) (ok_cntB h ho)) hs hf]
  exact ⟨fun h=>h.2.2.2,fun hr=>⟨h,ok_folds ho,ok_cntB h ho,hr⟩⟩
theorem isSp_not {L:List Ino} (h:¬ okAll L):isSp L = false:=by
  cases hs:isSp L with
  | false=>rfl
  | true=>exact (h (isSp_ok hs)).elim
end Sp
end Go.Proofs.YtggoccfddnpelaaGreat
namespace Go.Proofs.YtggoccfddnpelaaGreat
open Go.ChangeShapes Go.WideShapes Go.ChangeAt Go.RowKit Go.Deep It
set_option maxRecDepth 100000
set_option maxHeartbeats 8000000 in
theorem rspace_any : RtSaid Sp.isSp := by
  intro S v L w hv hok
  obtain ⟨ao,cap,rfl,-,-⟩:=hv.open
  obtain ⟨n,hn⟩:∃ n,L.length = n:=⟨_,rfl⟩
  rw [hn] at hv ⊢
  have HN:Hid (L.length = n):=hn
  have HPL:Hid ((pl L).length = n):=by show _ = _;rw [List.length_map];exact hn
  have HV:Hid (TabAt S w (.slice ao n cap) L):=hv
  have HOK:Hid (Sp.okN L):=hok
  obtain ⟨r,hr⟩:∃ r,Sp.isSp (pl L) = r:=⟨_,rfl⟩
  have HR:Hid (Sp.isSp (pl L) = r):=hr
  rw [hr]
  obtain ⟨i0,hi0⟩:∃ i0,It.right (pl L) = i0:=⟨_,rfl⟩
  have HI:Hid (It.right (pl L) = i0):=hi0
  clear hr hn hv hok hi0
  cases i0
  · have HH : Hid (r = false) := by
      show r = false
      rw [← HR.out]
      cases hs:Sp.isSp (pl L) with
      | false=>rfl
      | true=>have:=(Sp.isSp_iff.1 hs).1;rw [HI.out] at this;cases this
    go_enter Tryz.func75,Tryz.ntmps75
    go_wp2_with fail
    refine (rright_any _ L _ HV.out).mono ?_
    rintro e w1 ⟨rfl,hb1⟩
    rw [HI.out]
    have HB8:Hid (Below w.heap.size w w1):=hb1
    clear hb1
    go_wp2
    go_ret
    rw [HH.out]
    exact ⟨rfl,HB8.out⟩
  · have hL : L.length ≤ 24 := by have := (Sp.right_len HI.out).2; rw [List.length_map] at this; exact this
    have hL2:n<=24:=by rw [← HN.out];exact hL
    have hn1:0 < n:=by have:=(Sp.right_len HI.out).1;rw [HPL.out] at this;exact this
    go_enter Tryz.func75,Tryz.ntmps75
    go_wp2_with fail
    refine (rright_any _ L _ HV.out).mono ?_
    rintro e w1 ⟨rfl,hb1⟩
    rw [HI.out]
    have HB1':Hid (Below w.heap.size w w1):=hb1
    clear hb1
    go_wp2
    go_loopw [16] (fun i wr=>∃ k:Nat,k<=n/\i = .int .i64 k/\Hid (∀ j y,j < k->(pl L)[j]? = some y->Sp.okAt (pl L) j y)/\Hid (Below w.heap.size w wr)) (fun i _=>n - (intOf i).toNat)
    case atStart=>exact ⟨0,Nat.zero_le _,rfl,fun j y hj=>by omega,HB1'.out⟩
    case round =>
      obtain ⟨k,hk,rfl,HP,HB⟩:=hrel
      have hsz:=HB.out.size
      by_cases hlt:k < n
      · obtain ⟨x, hxk⟩ : ∃ x, L[k]? = some x := ⟨_, List.getElem?_eq_getElem (by rw [HN.out]; exact hlt)⟩
        have HPK:Hid ((pl L)[k]? = some x.i):=by show _ = _;simp [hxk]
        obtain ⟨⟨b,off,rfl,hB,hc⟩,hen,hel,hes⟩:=tab_eight HV.out hxk
        have HES:Hid (∀ j e,x.i.ents[j]? = some e->∃ b off,x.ep = some ⟨b,off,none⟩/\b < w.heap.size/\ent4 w b (off + j * 4) e):=hes
        have hgood:=HV.out.2 x (List.mem_of_getElem? hxk)
        obtain ⟨c0,c1,c2,c3,c4,c5,c6,c7⟩:=hc.below HB.out hB
        have hlt':(k:Int) < (n:Int):=by omega
        obtain ⟨m,hm⟩:∃ m,x.en = m:=⟨_,rfl⟩
        obtain ⟨ep,hep⟩:∃ ep,x.ep = ep:=⟨_,rfl⟩
        have HM:Hid (x.i.ents.length = m):=hen.symm.trans hm
        have hmb:m<=3518437208883:=by rw [← HM.out];exact hel
        have HEP:Hid (x.ep = ep):=hep
        rw [hm,hep] at c6
        have HGD:Hid (∀ {V:World},Below w.heap.size w V->AtW EE V (.slice ep m x.ec) x.i.ents):=fun {V} h=>by rw [← hm,← hep];exact (hgood.2.1.up h).wide
        have HSM:Hid (∀ e∈x.i.ents,e.1.size<=maxLen):=HOK.out x (List.mem_of_getElem? hxk)
        have HSUC:Hid (Sp.okAt (pl L) k x.i->∀ j y,j < k + 1->(pl L)[j]? = some y->Sp.okAt (pl L) j y):=fun h j y hj hy=>by
          by_cases hjk:j = k
          · subst hjk
            rw [HPK.out] at hy
            cases hy
            exact h
          · exact HP.out j y (by omega) hy
        have HBAD:Hid (¬ Sp.okAt (pl L) k x.i->r = false):=fun h=>by
          rw [← HR.out]
          exact Sp.isSp_not fun ho=>h (ho k x.i HPK.out)
        have hk012:x.i.kind = 0∨x.i.kind = 1∨x.i.kind = 2:=by
          have hone:=(It.right_iff.1 HI.out).2.2 x.i (List.mem_of_getElem? HPK.out)
          unfold one at hone
          simp only [Bool.and_eq_true] at hone
          rcases At.right_iff.1 hone.2.1 with ⟨h3,_⟩ | ⟨_,_,⟨h3,_⟩ | ⟨h3,_⟩⟩
          · exact .inl h3
          · exact .inr (.inl h3)
          · exact .inr (.inr h3)
        have HROOT:Hid (k = 0->x.i.kind = 2):=fun h0=>by subst h0;exact Sp.root_kind HI.out HPK.out
        clear hc hxk hes hen hel hm hep hgood
        rcases hk012 with hkd | hkd | hkd
        · rw [hkd] at c1
          have hkn:¬ k = 0:=fun h=>by have:=HROOT.out h;omega
          have hkz:¬ (k:Int) = 0:=by omega
          have HB1:Hid (Below w.heap.size w (wr.alloc (B8 x.i.gen 0 x.i.links x.i.size x.i.stamp (.slice x.rp x.rn x.rc) (.slice ep m x.ec) x.i.next))):=HB.out.alloc hsz _
          have HX1:Hid ((wr.alloc (B8 x.i.gen 0 x.i.links x.i.size x.i.stamp (.slice x.rp x.rn x.rc) (.slice ep m x.ec) x.i.next)).heap[wr.heap.size]? = some (B8 x.i.gen 0 x.i.links x.i.size x.i.stamp (.slice x.rp x.rn x.rc) (.slice ep m x.ec) x.i.next)):=heap_alloc_new wr _
          go_wp2_with fail
          refine (rnum_any _ L (k:Int) _ (HV.out.up HB1.out) hL).mono ?_
          rintro e w8 ⟨rfl,hb8⟩
          obtain ⟨g,hg⟩:∃ g,Sp.nmv (pl L) (k:Int) = g:=⟨_,rfl⟩
          have HG:Hid (Sp.nmv (pl L) (k:Int) = g):=hg
          rw [hg]
          have HB8:Hid (Below w.heap.size w w8):=HB1.out.trans (hb8.mono HB1.out.size)
          obtain ⟨⟨q0,q1,q2,q3,q4,q5,q6,q7⟩,-⟩:=eight_of ((hb8.block _ (Array.getElem?_eq_some_iff.1 HX1.out).1).trans HX1.out)
          clear hb8 hg
          have HY:Hid (∀ j y,j < k + 1->(pl L)[j]? = some y->Sp.okAt (pl L) j y):=HSUC.out ⟨fun h=>by omega,fun h=>by omega,fun h=>by omega,fun h=>by omega,fun h=>by omega⟩
          clear hkd
          go_wp2
          go_roundw
          case rel=>exact ⟨k + 1,by omega,by go_num,HY.out,HB8.out⟩
          case measure=>simp [intOf];omega
        · rw [hkd] at c1
          have hkn:¬ k = 0:=fun h=>by have:=HROOT.out h;omega
          have hkz:¬ (k:Int) = 0:=by omega
          have HB1:Hid (Below w.heap.size w (wr.alloc (B8 x.i.gen 1 x.i.links x.i.size x.i.stamp (.slice x.rp x.rn x.rc) (.slice ep m x.ec) x.i.next))):=HB.out.alloc hsz _
          have HX1:Hid ((wr.alloc (B8 x.i.gen 1 x.i.links x.i.size x.i.stamp (.slice x.rp x.rn x.rc) (.slice ep m x.ec) x.i.next)).heap[wr.heap.size]? = some (B8 x.i.gen 1 x.i.links x.i.size x.i.stamp (.slice x.rp x.rn x.rc) (.slice ep m x.ec) x.i.next)):=heap_alloc_new wr _
          go_wp2_with fail
          refine (rnum_any _ L (k:Int) _ (HV.out.up HB1.out) hL).mono ?_
          rintro e w8 ⟨rfl,hb8⟩
          obtain ⟨g,hg⟩:∃ g,Sp.nmv (pl L) (k:Int) = g:=⟨_,rfl⟩
          have HG:Hid (Sp.nmv (pl L) (k:Int) = g):=hg
          rw [hg]
          have HB8:Hid (Below w.heap.size w w8):=HB1.out.trans (hb8.mono HB1.out.size)
          obtain ⟨⟨q0,q1,q2,q3,q4,q5,q6,q7⟩,-⟩:=eight_of ((hb8.block _ (Array.getElem?_eq_some_iff.1 HX1.out).1).trans HX1.out)
          clear hb8 hg
          by_cases hn:(g:Int) = x.i.links
          · have HY : Hid (∀ j y, j < k + 1 → (pl L)[j]? = some y → Sp.okAt (pl L) j y) := HSUC.out ⟨fun h => by omega, fun h => by omega, fun h => by rw [HG.out]; exact hn, fun h => by omega, fun h => by omega⟩
            have h1:((g:Int) != x.i.links) = false:=by simp [hn]
            clear hkd hn
            go_wp2
            go_roundw
            case rel=>exact ⟨k + 1,by omega,by go_num,HY.out,HB8.out⟩
            case measure=>simp [intOf];omega
          · have HH : Hid (r = false) := HBAD.out fun h => hn (by rw [← HG.out]; exact h.2.2.1 hkd)
            have h1:((g:Int) != x.i.links) = true:=by simp [hn]
            clear hkd hn
            go_wp2
            go_ret
            rw [HH.out]
            exact ⟨rfl,HB8.out⟩
        · rw [hkd] at c1
          have HB1:Hid (Below w.heap.size w (wr.alloc (B8 x.i.gen 2 x.i.links x.i.size x.i.stamp (.slice x.rp x.rn x.rc) (.slice ep m x.ec) x.i.next))):=HB.out.alloc hsz _
          have HX1:Hid ((wr.alloc (B8 x.i.gen 2 x.i.links x.i.size x.i.stamp (.slice x.rp x.rn x.rc) (.slice ep m x.ec) x.i.next)).heap[wr.heap.size]? = some (B8 x.i.gen 2 x.i.links x.i.size x.i.stamp (.slice x.rp x.rn x.rc) (.slice ep m x.ec) x.i.next)):=heap_alloc_new wr _
          have HBX:Hid (∀ V,Below w.heap.size w V->Below w.heap.size w V):=fun _ h=>h
          rcases Fo.err_or x.i.ents x.i.next with ⟨he,hrt⟩ | ⟨he,hrt⟩
          · have HE : Hid (decide (Fo.err x.i.ents x.i.next = 0) = true) := decide_eq_true he
            clear he
            go_wp2_with fail
            refine (frright_any _ x.i.ents x.i.next _ (HGD.out HB1.out) HSM.out).mono ?_
            rintro e w4 ⟨rfl,hb4⟩
            rw [HE.out]
            have HB4:Hid (Below w.heap.size w w4):=HB1.out.trans (hb4.mono HB1.out.size)
            have HX4:Hid (w4.heap[wr.heap.size]? = some (B8 x.i.gen 2 x.i.links x.i.size x.i.stamp (.slice x.rp x.rn x.rc) (.slice ep m x.ec) x.i.next)):=(hb4.block _ (Array.getElem?_eq_some_iff.1 HX1.out).1).trans HX1.out
            obtain ⟨⟨q0,q1,q2,q3,q4,q5,q6,q7⟩,-⟩:=eight_of HX4.out
            clear hb4
            by_cases hs:x.i.size = (m:Int)
            · have HFO : Hid (Sp.fold x.i) := fun _ => ⟨hrt, by rw [hs, HM.out]⟩
              have hs1:(x.i.size != (m:Int)) = false:=by simp [hs]
              have HKD:Hid (x.i.kind = 2):=hkd
              clear hrt hs hkd
              go_wp2
              clear q0 q1 q2 q3 q4 q5 q6 q7 c0 c1 c2 c3 c4 c5 c6 c7 hs1
              obtain ⟨wo,rfl⟩:∃ wo:World,wo = wr:=⟨_,rfl⟩
              go_loopw [43] (fun i V=>∃ j:Nat,j<=m/\i = .int .i64 j/\Hid (∀ e∈x.i.ents.take j,names (pl L) e.2.2.1 e.2.2.2 = true)/\Hid (V.heap[wo.heap.size]? = some (B8 x.i.gen 2 x.i.links x.i.size x.i.stamp (.slice x.rp x.rn x.rc) (.slice ep m x.ec) x.i.next))/\Hid (Below w.heap.size w V)) (fun i _=>m - (intOf i).toNat)
              case atStart=>exact ⟨0,Nat.zero_le _,rfl,fun e he=>(by simp at he),HX4.out,HB4.out⟩
              case round =>
                obtain ⟨j,hj,rfl,HE5,HX5,HB5⟩:=hrel
                by_cases hjm:j < m
                · obtain ⟨⟨s, ck, no2, gn⟩, hej⟩ : ∃ e, x.i.ents[j]? = some e := ⟨_, List.getElem?_eq_getElem (by rw [HM.out]; exact hjm)⟩
                  obtain ⟨b2,off2,hep,hb2,h4⟩:=HES.out j _ hej
                  obtain rfl:ep = some ⟨b2,off2,none⟩:=HEP.out.symm.trans hep
                  obtain ⟨d0,d1,d2,d3⟩:=h4.below HB5.out hb2
                  simp only at d0 d1 d2 d3
                  have hjm':(j:Int) < (m:Int):=by omega
                  have HEJ:Hid (x.i.ents[j]? = some (s,ck,no2,gn)):=hej
                  obtain ⟨hx5,-⟩:=Array.getElem?_eq_some_iff.1 HX5.out
                  have HB6:Hid (Below w.heap.size w (wr.alloc (BEn (s,ck,no2,gn)))):=HB5.out.alloc HB5.out.size _
                  have HX6:Hid ((wr.alloc (BEn (s,ck,no2,gn))).heap[wo.heap.size]? = some (B8 x.i.gen 2 x.i.links x.i.size x.i.stamp (.slice x.rp x.rn x.rc) (.slice (some ⟨b2,off2,none⟩) m x.ec) x.i.next)):=(Below.heap_alloc wr _ _ hx5).trans HX5.out
                  clear hej hep h4
                  cases hnm:names (pl L) no2 gn with
                  | true =>
                    have HNN:Hid (names (pl L) no2 gn = true):=hnm
                    have HE6:Hid (∀ e∈x.i.ents.take (j + 1),names (pl L) e.2.2.1 e.2.2.2 = true):=fun e he=>by
                      rw [List.take_add_one,HEJ.out] at he
                      rcases List.mem_append.1 he with he | he
                      · exact HE5.out e he
                      · simp at he
                        subst he
                        exact HNN.out
                    clear hnm
                    go_wp2_with fail
                    refine (rnames_any _ L no2 gn _ (HV.out.up HB6.out)).mono ?_
                    rintro e w7 ⟨rfl,hb7⟩
                    rw [HNN.out]
                    have HB7:Hid (Below w.heap.size w w7):=HB6.out.trans (hb7.mono HB6.out.size)
                    have HX7:Hid (w7.heap[wo.heap.size]? = some (B8 x.i.gen 2 x.i.links x.i.size x.i.stamp (.slice x.rp x.rn x.rc) (.slice (some ⟨b2,off2,none⟩) m x.ec) x.i.next)):=(hb7.block _ (Array.getElem?_eq_some_iff.1 HX6.out).1).trans HX6.out
                    clear hb7
                    go_wp2
                    go_roundw
                    case rel=>exact ⟨j + 1,by omega,by go_num,HE6.out,HX7.out,HB7.out⟩
                    case measure=>simp [intOf];omega
                  | false =>
                    have HNN:Hid (names (pl L) no2 gn = false):=hnm
                    have HH:Hid (r = false):=HBAD.out fun h=>by
                      have:=h.2.1 HKD.out _ (List.mem_of_getElem? HEJ.out)
                      rw [show names (pl L) no2 gn = false from HNN.out] at this
                      cases this
                    clear hnm
                    go_wp2_with fail
                    refine (rnames_any _ L no2 gn _ (HV.out.up HB6.out)).mono ?_
                    rintro e w7 ⟨rfl,hb7⟩
                    rw [HNN.out]
                    have HB8:Hid (Below w.heap.size w w7):=HB6.out.trans (hb7.mono HB6.out.size)
                    clear hb7
                    go_wp2
                    go_ret
                    rw [HH.out]
                    exact ⟨rfl,HB8.out⟩
                · obtain rfl : m = j := by omega
                  have HNM:Hid (x.i.kind = 2->∀ e∈x.i.ents,names (pl L) e.2.2.1 e.2.2.2 = true):=fun _=>by
                    have:=HE5.out
                    rw [List.take_of_length_le (by rw [HM.out];exact Nat.le_refl _)] at this
                    exact this
                  have hkd:x.i.kind = 2:=HKD.out
                  go_wp2_with fail
                  refine (rnum_any _ L (k:Int) _ (HV.out.up HB5.out) hL).mono ?_
                  rintro e w8 ⟨rfl,hb8⟩
                  obtain ⟨g,hg⟩:∃ g,Sp.nmv (pl L) (k:Int) = g:=⟨_,rfl⟩
                  have HG:Hid (Sp.nmv (pl L) (k:Int) = g):=hg
                  rw [hg]
                  have HB8:Hid (Below w.heap.size w w8):=HB5.out.trans (hb8.mono HB5.out.size)
                  obtain ⟨⟨q0,q1,q2,q3,q4,q5,q6,q7⟩,-⟩:=eight_of ((hb8.block _ (Array.getElem?_eq_some_iff.1 HX5.out).1).trans HX5.out)
                  clear hb8 hg
                  by_cases hk0:k = 0
                  · by_cases hn : g = 0
                    · have HY : Hid (∀ j y, j < k + 1 → (pl L)[j]? = some y → Sp.okAt (pl L) j y) := HSUC.out ⟨HFO.out, HNM.out, fun h => by omega, fun h h' => by omega, fun h => by rw [HG.out, hn]; rfl⟩
                      subst hk0 hn
                      clear hkd
                      go_wp2
                      go_roundw
                      case rel=>exact ⟨0 + 1,by omega,by go_num,HY.out,HB8.out⟩
                      case measure=>simp [intOf];omega
                    · have HH : Hid (r = false) := HBAD.out fun h => hn (by have := h.2.2.2.2 hk0; rw [HG.out] at this; omega)
                      have h1:((g:Int) != 0) = true:=by simp;omega
                      subst hk0
                      clear hkd hn
                      go_wp2
                      go_ret
                      rw [HH.out]
                      exact ⟨rfl,HB8.out⟩
                  · have hk1 : 0 < (k : Int) := by omega
                    have hk2:¬ (k:Int) = 0:=by omega
                    by_cases hn:g = 1
                    · have HY : Hid (∀ j y, j < k + 1 → (pl L)[j]? = some y → Sp.okAt (pl L) j y) := HSUC.out ⟨HFO.out, HNM.out, fun h => by omega, fun h h' => by rw [HG.out, hn]; rfl, fun h => by omega⟩
                      subst hn
                      clear hkd
                      go_wp2
                      go_roundw
                      case rel=>exact ⟨k + 1,by omega,by go_num,HY.out,HB8.out⟩
                      case measure=>simp [intOf];omega
                    · have HH : Hid (r = false) := HBAD.out fun h => hn (by have := h.2.2.2.1 hkd (by omega); rw [HG.out] at this; omega)
                      have h1:((g:Int) != 1) = true:=by simp;omega
                      clear hkd hn
                      go_wp2
                      go_ret
                      rw [HH.out]
                      exact ⟨rfl,HB8.out⟩
            · have HH : Hid (r = false) := HBAD.out fun h => hs (by rw [(h.1 hkd).2, HM.out])
              have hs1:(x.i.size != (m:Int)) = true:=by simp [hs]
              have HB8:=HB4
              clear hrt hs hkd
              go_wp2
              go_ret
              rw [HH.out]
              exact ⟨rfl,HB8.out⟩
          · have HE : Hid (decide (Fo.err x.i.ents x.i.next = 0) = false) := decide_eq_false (by rw [he]; decide)
            have HH:Hid (r = false):=HBAD.out fun h=>hrt (h.1 hkd).1
            clear he hrt hkd
            go_wp2_with fail
            refine (frright_any _ x.i.ents x.i.next _ (HGD.out HB1.out) HSM.out).mono ?_
            rintro e w4 ⟨rfl,hb4⟩
            rw [HE.out]
            have HB8:Hid (Below w.heap.size w w4):=HB1.out.trans (hb4.mono HB1.out.size)
            clear hb4
            go_wp2
            go_ret
            rw [HH.out]
            exact ⟨rfl,HB8.out⟩
      · obtain rfl : n = k := by omega
        have HALL:Hid (Sp.okAll (pl L)):=fun i x hx=>HP.out i x (by rw [← HPL.out];exact (List.getElem?_eq_some_iff.1 hx).1) hx
        go_wp2_with fail
        refine (reach_any _ L 0 _ (HV.out.up HB.out) (by omega) (by rw [HN.out];exact hn1)).mono ?_
        rintro e w2 ⟨rfl,hb2,f,hrow,hsd,hfl⟩
        rw [HN.out] at hrow hfl ⊢
        obtain ⟨b9,hb9⟩:∃ b9,wr.heap.size = b9:=⟨_,rfl⟩
        rw [hb9] at hrow ⊢
        have HB2:Hid (Below w.heap.size w w2):=HB.out.trans (hb2.mono HB.out.size)
        have HROW:Hid (w2.rowIs b9 4 n (fun i=>.bool (f i))):=hrow
        have HISP:Hid (Sp.isSp (pl L) = true ↔ ∀ c,Sp.dirAt (pl L) c = true->f c = true):=Sp.isSp_of HI.out HALL.out hsd (by rw [HPL.out];exact hfl)
        clear hb2 hrow hsd hfl hb9
        go_wp2
        obtain ⟨wo,rfl⟩:∃ wo:World,wo = wr:=⟨_,rfl⟩
        go_loopw [94] (fun i V=>∃ k:Nat,k<=n/\i = .int .i64 k/\Hid (∀ c,c < k->Sp.dirAt (pl L) c = true->f c = true)/\Hid (Below w2.heap.size w2 V)) (fun i _=>n - (intOf i).toNat)
        case atStart=>exact ⟨0,Nat.zero_le _,rfl,fun c hc=>by omega,Below.refl _ _⟩
        case round =>
          obtain ⟨k,hk,rfl,HF,HBV⟩:=hrel
          have hszv:=HBV.out.size
          have HB8:Hid (Below w.heap.size w wr):=HB2.out.trans (HBV.out.mono HB2.out.size)
          by_cases hlt:k < n
          · obtain ⟨x, hxk⟩ : ∃ x, L[k]? = some x := ⟨_, List.getElem?_eq_getElem (by rw [HN.out]; exact hlt)⟩
            obtain ⟨⟨b,off,rfl,hB,hc⟩,-,-,-⟩:=tab_eight HV.out hxk
            obtain ⟨c0,c1,c2,c3,c4,c5,c6,c7⟩:=hc.below HB8.out hB
            have hlt':(k:Int) < (n:Int):=by omega
            have HDIR:Hid (Sp.dirAt (pl L) k = (x.i.kind == 2)):=(ents_at hxk).2
            have hrv:=HROW.out.of_block (HBV.out.block _ HROW.out.lt)
            have q1:=hrv.cell hlt
            have hlv:=hrv.lt
            clear hc hxk hrv
            by_cases hkd:x.i.kind = 2
            · rw [hkd] at c1
              cases hfk:f k with
              | true =>
                rw [hfk] at q1
                have HF2:Hid (∀ c,c < k + 1->Sp.dirAt (pl L) c = true->f c = true):=fun c hc hd=>by
                  by_cases hck:c = k
                  · rw [hck];exact hfk
                  · exact HF.out c (by omega) hd
                clear hfk hkd
                go_wp2
                go_roundw
                case rel=>exact ⟨k + 1,by omega,by go_num,HF2.out,HBV.out.alloc hszv _⟩
                case measure=>simp [intOf];omega
              | false =>
                rw [hfk] at q1
                have HH:Hid (r = false):=by
                  show r = false
                  rw [← HR.out]
                  cases hs:Sp.isSp (pl L) with
                  | false=>rfl
                  | true =>
                    have:=HISP.out.1 hs k (by rw [HDIR.out,hkd];rfl)
                    rw [hfk] at this
                    cases this
                clear hfk hkd
                go_wp2
                go_ret
                rw [HH.out]
                exact ⟨rfl,HB8.out.alloc HB8.out.size _⟩
            · have HF2 : Hid (∀ c, c < k + 1 → Sp.dirAt (pl L) c = true → f c = true) := fun c hc hd => by
                by_cases hck:c = k
                · rw [hck, HDIR.out] at hd
                  exact (hkd (by simpa using hd)).elim
                · exact HF.out c (by omega) hd
              go_wp2
              go_roundw
              case rel=>exact ⟨k + 1,by omega,by go_num,HF2.out,HBV.out.alloc hszv _⟩
              case measure=>simp [intOf];omega
          · obtain rfl : n = k := by omega
            have HH:Hid (r = true):=by
              show r = true
              rw [← HR.out]
              exact HISP.out.2 fun c hd=>HF.out c (by rw [← HPL.out];exact Sp.dirAt_lt hd) hd
            go_wp2
            go_ret
            rw [HH.out]
            exact ⟨rfl,HB8.out⟩
end Go.Proofs.YtggoccfddnpelaaGreat
namespace Go.Proofs.YtggoccfddnpelaaGreat
set_option maxRecDepth 100000
namespace Fo
def okE (next:Int) (x:Ent):Prop:=Nm.ok x.1/\(1<=x.2.1/\x.2.1<=next)/\Ho x.2.2.1 x.2.2.2
theorem right_iff {l:List Ent} {next:Int}:Right l next ↔ (0<=next/\next<=1099511627776)/\(∀ x∈l,okE next x)/\l.Pairwise (fun a b=>a.2.1 < b.2.1)/\apart l:=by
  constructor
  · intro h
    refine ⟨h.1,fun x hx=>?_,?_,h.2.2⟩
    · obtain ⟨i, hi⟩ := List.mem_iff_getElem?.1 hx
      have hl:=(List.getElem?_eq_some_iff.1 hi).1
      have hg:=h.2.1 i hl x hi
      have hb:=lastC_bd (k:=i) (fun j hj=>h.2.1 j (by omega)) (by omega) h.1.1
      exact ⟨hg.1,⟨by omega,hg.2.1.2⟩,hg.2.2⟩
    · rw [List.pairwise_iff_getElem]
      intro i j hi hj hij
      exact rising h j i _ _ hij (List.getElem?_eq_getElem hi) (List.getElem?_eq_getElem hj)
  · rintro ⟨h1, h2, h3, h4⟩
    refine ⟨h1,fun i hi x hx=>?_,h4⟩
    have hm:=h2 x (List.mem_of_getElem? hx)
    refine ⟨hm.1,⟨?_,hm.2.1.2⟩,hm.2.2⟩
    cases i with
    | zero =>
      have:=hm.2.1.1
      simpa [lastC] using this
    | succ i =>
      have hy:l[i]? = some (l[i]'(by omega)):=List.getElem?_eq_getElem _
      rw [lastC_succ hy]
      have h5:=List.pairwise_iff_getElem.1 h3 i (i + 1) (by omega) hi (by omega)
      have h6:=(List.getElem?_eq_some_iff.1 hx).2
      rw [h6] at h5
      omega
end Fo
end Go.Proofs.YtggoccfddnpelaaGreat
namespace Go.Proofs.YtggoccfddnpelaaGreat
open Go.ChangeShapes Go.WideShapes Go.ChangeAt Go.RowKit Go.Deep It
set_option maxRecDepth 100000
namespace Nf
end Nf
theorem setCells_tab {S:Nat->Prop} {A:Nat} {v:Value} {L:List Rw} (hA:¬ S A):∀ (vs:List Value) (o:Nat) (w:World),TabAt S w v L->TabAt S (w.setCells A o vs) v L
  | [],_,_,h=>h
  | _ :: vs,o,_,h=>setCells_tab hA vs (o + 1) _ ⟨h.1.setCell hA _,fun x hx=>(h.2 x hx).setCell hA _⟩
end Go.Proofs.YtggoccfddnpelaaGreat
namespace Go.Proofs.YtggoccfddnpelaaGreat.Os
open Go.ChangeShapes Go.WideShapes Go.ChangeAt Go.RowKit Go.Deep
set_option maxRecDepth 100000
theorem cell_next {w w':World} {b j:Nat} {v:Value} (h:w.cell? ⟨b,j,none⟩ = some v) (hb:Below w.heap.size w w') (hl:b < w.heap.size):w'.cell? ⟨b,j,none⟩ = some v:=(hb.cell (p:=⟨b,j,none⟩) hl).trans h
theorem cell_lt {w:World} {b j:Nat} {v:Value} (h:w.cell? ⟨b,j,none⟩ = some v):b < w.heap.size:=by
  unfold World.cell? at h
  by_cases hb:b < w.heap.size
  · exact hb
  · rw [Array.getElem?_eq_none (by simpa using hb)] at h
    simp at h
theorem cell_step {w w':World} {b j:Nat} {v:Value} (h:w.cell? ⟨b,j,none⟩ = some v) (hb:Below w.heap.size w w'):w'.cell? ⟨b,j,none⟩ = some v:=cell_next h hb (cell_lt h)
theorem undrew {w w':World} (h:Below w.drew.heap.size w.drew w'):Below w.heap.size w w':=⟨h.os,h.tape,h.output,h.size,h.block⟩
/-- The four cells of an open file in a block of its own. -/
abbrev Four (X:Nat) (x:Opn) (w:World):Prop:=w.cell? ⟨X,0,none⟩ = some (.int .i64 x.1)/\w.cell? ⟨X,1,none⟩ = some (.int .i64 x.2.1)/\w.cell? ⟨X,2,none⟩ = some (.int .i64 x.2.2.1)/\w.cell? ⟨X,3,none⟩ = some (.int .i64 x.2.2.2)
end Go.Proofs.YtggoccfddnpelaaGreat.Os
namespace Go.Proofs.YtggoccfddnpelaaGreat
open Go.ChangeShapes Go.WideShapes Go.ChangeAt Go.RowKit Go.Deep It
set_option maxRecDepth 100000
namespace Nf
noncomputable def opE (L:List Ino) (O:List Os.Opn) (cl:Int) (c:Cal):Int:=if fndE L c.no c.gen 1 405 = 0 then Os.Op.openErr O cl c.no c.gen else fndE L c.no c.gen 1 405
end Nf
namespace Nf
noncomputable def reT (L:List Ino) (O:List Os.Opn) (h:Int × Int):List Ino:=if needB L O h then L else if dropErr L h.1 h.2 = 0 then dropTab L h.1 h.2 else L
/-- The table in the task's box: the old one, or a new one. -/
def Now (n:Nat) (w':World) (v u:Value) (T T':List Ino):Prop:=(u = v/\T' = T)∨∃ L',TabAt (fun b=>n<=b) w' u L'/\pl L' = T'
end Nf
namespace Nf
noncomputable def clT (L:List Ino) (O:List Os.Opn) (cl fd:Int):List Ino:=if Os.Op.closeErr O cl fd = 0 then reT L (Os.Op.closed O cl fd) (Os.Op.closeOf O cl fd) else L
theorem Now.mono {n m:Nat} {w':World} {v u:Value} {T T':List Ino} (h:Now n w' v u T T') (hk:m<=n):Now m w' v u T T':=by
  rcases h with h | ⟨L',h1,h2⟩
  · exact .inl h
  · exact .inr ⟨L',h1.more hk,h2⟩
theorem Now.cells {n:Nat} {w':World} {v u:Value} {T T':List Ino} (h:Now n w' v u T T') {A:Nat} (hA:A < n) (vs:List Value) (o:Nat):Now n (w'.setCells A o vs) v u T T':=by
  rcases h with h | ⟨L',h1,h2⟩
  · exact .inl h
  · exact .inr ⟨L',setCells_tab (by omega) vs o _ h1,h2⟩
end Nf
end Go.Proofs.YtggoccfddnpelaaGreat
