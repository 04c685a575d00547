/- FCheck, Sp1, Mp, Fol0, as one. -/
import Derived.Maps.RangeRun
import Derived.Laws.IdiomRangeMap
import Derived.RangeFuncOwn
import Derived.Test.YtggoccfddnpelaaGreatR3
namespace Go.Proofs.YtggoccfddnpelaaGreat
open Go.ChangeShapes Go.WideShapes Go.ChangeAt Go.RowKit Go.Deep Go.Maps Go.WideMaps
set_option maxRecDepth 100000
theorem law9:Keyed Tryz.prog 9:=string_keyed Tryz.underlying9
theorem run_makeMap_some (t:TypeId) (k e:TypeId) (ht:Tryz.prog.underlying t = some (.map k e)) (w:World) (n:Int):(Instr.makeMap t (some (.int .i64 n))).run Tryz.prog w = .ok (.map (some w.heap.size)) (w.alloc (.map #[] 0)):=by
  simp [Instr.makeMap,run_underlying ht,asInt,asIntOf]
abbrev VD (v:Value) (next:Int):Value:=.agg #[v,.int .i64 next]
abbrev BD (v:Value) (next:Int):Obj:=.cells #[v,.int .i64 next] 162
abbrev BE (x:Ent):Obj:=.cells #[.string x.1,.int .i64 x.2.1,.int .i64 x.2.2.1,.int .i64 x.2.2.2] 91
theorem made_at (w:World) {b:Nat} (h:w.heap.size = b):Hid ((w.alloc (.map #[] 0)).ownsMap Tryz.prog 9 (unitElem (H:=Unit)) b 0 (.map [])):=h ▸ World.ownsMap_made w _ _ _
theorem dir_cells {w wr:World} {v:Value} {next:Int} (h:Below (w.heap.size + 1) (w.alloc (BD v next)) wr):wr.cell? ⟨w.heap.size,0,none⟩ = some v/\wr.cell? ⟨w.heap.size,1,none⟩ = some (.int .i64 next):=by
  rw [h.cell (p:=⟨w.heap.size,0,none⟩) (by simp),h.cell (p:=⟨w.heap.size,1,none⟩) (by simp)]
  have hh:=heap_alloc_new w (BD v next)
  constructor <;> simp only [World.cell?,hh] <;> rfl
theorem over {w wr w1:World} {v:Value} {next:Int} (_:Below (w.heap.size + 1) (w.alloc (BD v next)) wr) (h:Below (w.heap.size + 1) (w.alloc (BD v next)) w1):Below w.heap.size w w1 :=
  ⟨h.os,h.tape,h.output,by have:=h.size;simp at this;omega,fun k hk=>(h.block k (by omega)).trans (((Below.refl w.heap.size w).alloc (Nat.le_refl _) (BD v next)).block k hk)⟩
theorem cell_older {w1:World} {p:Nat} (hp:p < w1.heap.size) (o:Obj) (j:Nat):(w1.alloc o).cell? ⟨p,j,none⟩ = w1.cell? ⟨p,j,none⟩:=((Below.refl w1.heap.size w1).alloc (Nat.le_refl _) o).cell (p:=⟨p,j,none⟩) hp
theorem ent_cells {w wr:World} {v:Value} {next:Int} {b off k:Nat} {x:Ent} (h:Below (w.heap.size + 1) (w.alloc (BD v next)) wr) (hB:b < w.heap.size) (hc:∀ j u,(EE.cells x)[j]? = some u->w.cell? ⟨b,off + (k * EE.sz + j),none⟩ = some u) :
    wr.cell? ⟨b,off + k * 4,none⟩ = some (.string x.1)/\wr.cell? ⟨b,off + k * 4 + 1,none⟩ = some (.int .i64 x.2.1)/\wr.cell? ⟨b,off + k * 4 + 2,none⟩ = some (.int .i64 x.2.2.1)/\wr.cell? ⟨b,off + k * 4 + 3,none⟩ = some (.int .i64 x.2.2.2):=by
  have e:∀ o,wr.cell? ⟨b,o,none⟩ = w.cell? ⟨b,o,none⟩:=fun o=>(h.cell (p:=⟨b,o,none⟩) (by show b < _;omega)).trans (((Below.refl w.heap.size w).alloc (Nat.le_refl _) _).cell (p:=⟨b,o,none⟩) hB)
  have a:=fun j u hj=>(e _).trans (hc j u hj)
  exact ⟨a 0 _ rfl,a 1 _ rfl,a 2 _ rfl,a 3 _ rfl⟩
theorem behind {w wr w1:World} {v:Value} {next:Int} (h:Below (w.heap.size + 1) (w.alloc (BD v next)) wr) (hws:w.heap.size + 1<=wr.heap.size) (x:Ent) (hb:Below (wr.alloc (BE x)).heap.size (wr.alloc (BE x)) w1) :
    w1.cell? ⟨wr.heap.size,0,none⟩ = some (.string x.1)/\w1.cell? ⟨wr.heap.size,1,none⟩ = some (.int .i64 x.2.1)/\w1.cell? ⟨wr.heap.size,2,none⟩ = some (.int .i64 x.2.2.1)/\w1.cell? ⟨wr.heap.size,3,none⟩ = some (.int .i64 x.2.2.2) /\
      w1.cell? ⟨w.heap.size,0,none⟩ = some v/\w1.cell? ⟨w.heap.size,1,none⟩ = some (.int .i64 next)/\Hid (wr.grownBy w1 none)/\wr.heap.size + 1<=w1.heap.size:=by
  have hg:wr.grownBy w1 none:=grown_trans (World.grownBy_alloc wr (BE x) none) (grown_of_below hb none)
  have hsz:wr.heap.size + 1<=w1.heap.size:=by have:=hb.size;simpa using this
  have hB:Below (w.heap.size + 1) (w.alloc (BD v next)) w1:=h.grown hg hws (fun k hk=>by cases hk)
  have e:∀ o,w1.cell? ⟨wr.heap.size,o,none⟩ = (wr.alloc (BE x)).cell? ⟨wr.heap.size,o,none⟩:=fun o=>hb.cell (p:=⟨wr.heap.size,o,none⟩) (by simp)
  obtain ⟨d0,d1⟩:=dir_cells hB
  have hh:=heap_alloc_new wr (BE x)
  refine ⟨?_,?_,?_,?_,d0,d1,hg,hsz⟩ <;> rw [e] <;> simp only [World.cell?,hh] <;> rfl
set_option maxHeartbeats 2000000 in
theorem fcheck_any (v : Value) (l : List Ent) (next : Int) (w : World) (hv : AtW EE w v l) (hs : ∀ x ∈ l, x.1.size ≤ maxLen) :
    Calls Tryz.prog 118 #[VD v next] w fun e w'=>e = .returned (.int .i64 (Fo.err l next))/\Below w.heap.size w w':=by
  obtain ⟨ao,cap,rfl,hm,hx⟩:=hv.open
  clear hv
  unfold maxLen at hm
  obtain ⟨n,hn⟩:∃ n,l.length = n:=⟨_,rfl⟩
  rw [hn] at hm ⊢
  have HN:Hid (l.length = n):=hn
  have HX:Hid (∀ i x,l[i]? = some x->∃ b off,ao = some ⟨b,off,none⟩/\True/\b < w.heap.size/\∀ k u,(EE.cells x)[k]? = some u->w.cell? ⟨b,off + (i * EE.sz + k),none⟩ = some u):=hx
  have HS:Hid (∀ x∈l,x.1.size<=maxLen):=hs
  clear hn hx hs
  by_cases h1:0<=next/\next<=1099511627776
  · have H1 : Hid (0 ≤ next ∧ next ≤ 1099511627776) := h1
    have hmm:=run_makeMap_some 182 9 184 (by kernel_rfl)
    go_enter Tryz.func118,Tryz.ntmps118
    go_wp2_with fail
    refine (fwithin_yes _ _ _ _ H1.out).mono ?_
    rintro e w' ⟨rfl,rfl⟩
    go_wp2
    go_loopw [3,18] (fun t i wr=>∃ k:Nat,k<=n/\i = .int .i64 k/\t = .int .i64 (Fo.lastC l k)/\Hid (Fo.Pre next l k)/\Hid (wr.ownsMap Tryz.prog 9 unitElem (w.heap.size + 1) k (Fo.Sn (H:=Unit) l k))/\Hid (Below (w.heap.size + 1) (w.alloc (BD (.slice ao n cap) next)) wr)) (fun _ i _=>n - (intOf i).toNat)
    case atStart=>exact ⟨0,Nat.zero_le _,rfl,rfl,Fo.pre_zero _ _,by rw [Fo.Sn_zero];exact made_at (w.alloc (BD (.slice ao n cap) next)) (by simp),(Below.refl _ _).alloc (by simp) _⟩
    case round =>
      obtain ⟨k,hk,rfl,rfl,HP,HOW,HBL⟩:=hrel
      obtain ⟨hd0,hd1⟩:=dir_cells HBL.out
      have hws:w.heap.size + 1<=wr.heap.size:=by have:=HBL.out.size;simpa using this
      obtain ⟨hb0,hb1⟩:=Fo.lastC_bd HP.out (by rw [HN.out];exact hk) H1.out.1
      have hb2:next<=1099511627776:=H1.out.2
      obtain ⟨la,hla⟩:∃ la,Fo.lastC l k = la:=⟨_,rfl⟩
      rw [hla] at hb0 hb1 ⊢
      have HLA:Hid (Fo.lastC l k = la):=hla
      clear hla h1
      by_cases hlt:k < n
      · obtain ⟨x, hxk⟩ : ∃ x, l[k]? = some x := ⟨_, List.getElem?_eq_getElem (by rw [HN.out]; exact hlt)⟩
        have HXK:Hid (l[k]? = some x):=hxk
        obtain ⟨b,off,rfl,-,hB,hc⟩:=HX.out k x hxk
        obtain ⟨c0,c1,c2,c3⟩:=ent_cells HBL.out hB hc
        have HSZ:Hid (x.1.size<=maxLen):=HS.out x (List.mem_of_getElem? hxk)
        clear hc hxk
        obtain ⟨xs,xc,xo,xg⟩:=x
        simp only at c0 c1 c2 c3 HSZ
        have hlt':(k:Int) < (n:Int):=by omega
        by_cases g1:Nm.ok xs
        · have E1 : Hid (Nm.err xs = 0) := Nm.err_ok g1
          by_cases g2:la + 1<=xc/\xc<=next
          · have G2 : Hid (la + 1 ≤ xc ∧ xc ≤ next) := g2
            by_cases g3:Ho xo xg
            · have G3 : Hid (Ho xo xg) := g3
              have HG:Hid (Fo.Pre next l (k + 1)):=Fo.pre_succ HP.out fun y hy=>by
                rw [HXK.out] at hy
                cases hy
                exact ⟨g1,by rw [HLA.out];exact g2,g3⟩
              have HD:Hid (decide (Ho xo xg) = true):=decide_eq_true g3
              clear g1 g2 g3
              go_wp2_with fail
              refine (name_any xs _ HSZ.out).mono ?_
              rintro e w1 ⟨rfl,hb⟩
              rw [E1.out]
              obtain ⟨e0,e1,e2,e3,f0,f1,HB1,hs1⟩:=behind HBL.out hws (xs,xc,xo,xg) hb
              simp only at e0 e1 e2 e3
              clear hb
              go_wp2_with fail
              refine (fwithin_yes _ _ _ _ G2.out).mono ?_
              rintro e w2 ⟨rfl,rfl⟩
              go_wp2_with fail
              refine (rightTo_any xo xg _).mono ?_
              rintro e w2 ⟨rfl,rfl⟩
              rw [HD.out]
              have HOW2:=HOW.out.kept (grown_trans HB1.out (World.grownBy_alloc w2 (BHf xo xg) none)) (by simp)
              have HB3:Hid (Below (w.heap.size + 1) (w.alloc (BD (.slice (some ⟨b,off,none⟩) n cap) next)) (w2.alloc (BHf xo xg))):=(HBL.out.grown HB1.out hws (fun j hj=>by cases hj)).alloc (by omega) _
              rw [← cell_older (by omega) (BHf xo xg)] at e0 e1 f0
              have hs3:w.heap.size + 1<=(w2.alloc (BHf xo xg)).heap.size:=by simp;omega
              clear e2 e3 f1 HB1 hs1 hd0 hd1 c0 c1 c2 c3
              generalize w2.alloc (BHf xo xg) = w3 at *
              have hkey:=keyOf_string_mk Tryz.underlying9 HSZ.out
              go_wp2_with (first
                | (at_mapUpdate;refine wpList_mapUpdate_own _ rfl _ _ _ 182 rfl 9 184 law9 (by kernel_rfl) (unitElem (H:=Unit)) (w.heap.size + 1) k _ rfl HOW2 (by unfold maxLen;omega) _ _ _ rfl rfl hkey _ [] unitElem_mk ?_;intro w5 hown1 hgrow1)
                | go_in)
              go_roundw
              case rel=>exact ⟨k + 1,by omega,by go_num,by rw [Fo.lastC_succ HXK.out],HG,by rw [Fo.Sn_succ HXK.out];exact hown1,HB3.out.grown hgrow1 hs3 (fun j hj=>by cases hj;exact Nat.le_refl _)⟩
              case measure=>simp [intOf];omega
            · have HD : Hid (decide (Ho xo xg) = false) := decide_eq_false g3
              have H:Hid (Fo.err l next = 4):=Fo.not_good HXK.out fun h=>g3 h.2.2
              clear g1 g2 g3
              go_wp2_with fail
              refine (name_any xs _ HSZ.out).mono ?_
              rintro e w1 ⟨rfl,hb⟩
              rw [E1.out]
              obtain ⟨e0,e1,e2,e3,f0,f1,HB1,hs1⟩:=behind HBL.out hws (xs,xc,xo,xg) hb
              simp only at e0 e1 e2 e3
              clear hb
              go_wp2_with fail
              refine (fwithin_yes _ _ _ _ G2.out).mono ?_
              rintro e w2 ⟨rfl,rfl⟩
              go_wp2_with fail
              refine (rightTo_any xo xg _).mono ?_
              rintro e w2 ⟨rfl,rfl⟩
              rw [HD.out]
              go_wp2
              go_ret
              rw [H.out]
              exact ⟨rfl,over HBL.out ((HBL.out.grown HB1.out hws (fun j hj=>by cases hj)).alloc (by omega) _)⟩
          · have G2 : Hid (¬ (la + 1 ≤ xc ∧ xc ≤ next)) := g2
            have H:Hid (Fo.err l next = 4):=Fo.not_good HXK.out fun h=>g2 (by have:=h.2.1;rw [HLA.out] at this;exact this)
            clear g1 g2
            go_wp2_with fail
            refine (name_any xs _ HSZ.out).mono ?_
            rintro e w1 ⟨rfl,hb⟩
            rw [E1.out]
            obtain ⟨e0,e1,e2,e3,f0,f1,HB1,hs1⟩:=behind HBL.out hws (xs,xc,xo,xg) hb
            simp only at e0 e1 e2 e3
            clear hb
            go_wp2_with fail
            refine (fwithin_no _ _ _ _ G2.out).mono ?_
            rintro e w2 ⟨rfl,rfl⟩
            go_wp2
            go_ret
            rw [H.out]
            exact ⟨rfl,over HBL.out (HBL.out.grown HB1.out hws (fun j hj=>by cases hj))⟩
        · have E1 : Hid (Nm.err xs = 409) := Nm.err_no g1
          have H:Hid (Fo.err l next = 4):=Fo.not_good HXK.out fun h=>g1 h.1
          clear g1
          go_wp2_with fail
          refine (name_any xs _ HSZ.out).mono ?_
          rintro e w1 ⟨rfl,hb⟩
          rw [E1.out]
          obtain ⟨e0,e1,e2,e3,f0,f1,HB1,hs1⟩:=behind HBL.out hws (xs,xc,xo,xg) hb
          clear hb
          go_wp2
          go_ret
          rw [H.out]
          exact ⟨rfl,over HBL.out (HBL.out.grown HB1.out hws (fun j hj=>by cases hj))⟩
      · obtain rfl : k = n := by omega
        have HE:Hid (Fo.err l next = if Maps.size (Fo.Sn (H:=Unit) l k) < k then 4 else 0):=by
          have:=Fo.err_all H1.out (l:=l) (by rw [HN.out];exact HP.out)
          rwa [HN.out] at this
        have HOW2:=HOW.out
        obtain ⟨D,hD⟩:∃ D,Fo.Sn (H:=Unit) l k = D:=⟨_,rfl⟩
        rw [hD] at HE HOW2
        have hle:=HOW2.size_le
        by_cases hz:Maps.size D < k
        · have hz' : (Maps.size D : Int) < (k : Int) := by omega
          have H:Hid (Fo.err l next = 4):=by
            have:=HE.out
            rwa [if_pos hz] at this
          go_wp2_with (first
            | (at_len;refine wpList_len_own _ rfl _ 182 rfl 9 184 (by kernel_rfl) _ (w.heap.size + 1) k _ rfl HOW2 ?_)
            | go_in)
          go_ret
          rw [H.out]
          exact ⟨rfl,over HBL.out HBL.out⟩
        · have hz' : ¬ (Maps.size D : Int) < (k : Int) := by omega
          have H:Hid (Fo.err l next = 0):=by
            have:=HE.out
            rwa [if_neg hz] at this
          go_wp2_with (first
            | (at_len;refine wpList_len_own _ rfl _ 182 rfl 9 184 (by kernel_rfl) _ (w.heap.size + 1) k _ rfl HOW2 ?_)
            | go_in)
          go_ret
          rw [H.out]
          exact ⟨rfl,over HBL.out HBL.out⟩
  · have H1 : Hid (¬ (0 ≤ next ∧ next ≤ 1099511627776)) := h1
    have H:Hid (Fo.err l next = 4):=Fo.err_no fun h=>h1 h.1
    rw [H.out]
    clear h1
    go_enter Tryz.func118,Tryz.ntmps118
    go_wp2_with fail
    refine (fwithin_no _ _ _ _ H1.out).mono ?_
    rintro e w' ⟨rfl,rfl⟩
    go_wp2
    go_ret
    exact ⟨rfl,(Below.refl _ _).alloc (Nat.le_refl _) _⟩
end Go.Proofs.YtggoccfddnpelaaGreat
namespace Go.Proofs.YtggoccfddnpelaaGreat
open Go.ChangeShapes Go.WideShapes Go.ChangeAt Go.RowKit Go.Deep It
set_option maxRecDepth 100000
/-- An inode in a block of its own. -/
abbrev BIx (x:Rw):Obj:=B8 x.i.gen x.i.kind x.i.links x.i.size x.i.stamp (.slice x.rp x.rn x.rc) (.slice x.ep x.en x.ec) x.i.next
theorem isDir_any (x:Rw) (w:World):Calls Tryz.prog 117 #[VI x] w fun e w'=>e = .returned (.bool (x.i.kind == 2))/\w' = w.alloc (BIx x):=by
  go_enter Tryz.func117,Tryz.ntmps117
  go_wp2
  go_ret
  exact ⟨rfl,rfl⟩
theorem dirOf_any (x:Rw) (w:World):Calls Tryz.prog 119 #[VI x] w fun e w'=>e = .returned (VD (.slice x.ep x.en x.ec) x.i.next)/\Below w.heap.size w w':=by
  obtain ⟨⟨q0,q1,q2,q3,q4,q5,q6,q7⟩,-⟩:=eight_of (heap_alloc_new w (BIx x))
  have k6:=(cell_older (by simp) (.cells #[.slice none 0 0,.int .i64 0] 162) 6).trans q6
  have k7:=(cell_older (by simp) (.cells #[.slice none 0 0,.int .i64 0] 162) 7).trans q7
  clear q0 q1 q2 q3 q4 q5 q6 q7
  go_enter Tryz.func119,Tryz.ntmps119
  go_wp2
  (try simp only [Exit.inBlock,Exit.then])
  refine bodyPost_ret (v:=VD (.slice x.ep x.en x.ec) x.i.next) ?_ rfl ⟨rfl,?_⟩
  · rw [results_cell1 rfl]
    go_simp
  · exact ((Below.refl _ w).alloc (Nat.le_refl _) _).alloc (by simp) _
abbrev VHh (h:Int × Int):Value:=.agg #[.int .i64 h.1,.int .i64 h.2]
theorem equal_hand (w:World) (a b:Int × Int):(Op.equal 55 (VHh a) (VHh b)).run Tryz.prog w = .ok (a == b) w:=by
  have h1:(binOp .eql 55 (VHh a) (VHh b)).run Tryz.prog w = .ok (.bool (a == b)) w:=by
    obtain ⟨a0,a1⟩:=a
    obtain ⟨b0,b1⟩:=b
    have e:((a0,a1) == (b0,b1)) = ((a0 == b0) && (a1 == b1)):=rfl
    rw [e]
    cases h0:(a0 == b0) <;> cases h1:(a1 == b1) <;> go_simp <;> simp [h0,h1]
  have h2:(binOp .eql 55 (VHh a) (VHh b)).run Tryz.prog w = ((Op.equal 55 (VHh a) (VHh b)).run Tryz.prog w).andThen fun r w'=>.ok (.bool r) w':=by
    unfold binOp
    simp only [Sem.run_bind,Sem.run_pure]
  rw [h1] at h2
  generalize (Op.equal 55 (VHh a) (VHh b)).run Tryz.prog w = r at h2
  cases r with
  | ok x w' =>
    simp only [Result.andThen,Result.ok.injEq,Value.bool.injEq] at h2
    rw [h2.1,h2.2]
  | halt x w'=>cases h2
theorem check_hand (w:World) (em:Bool) (a:Int × Int):(Instr.checkKey em 10000 55 (VHh a)).run Tryz.prog w = .ok () w:=by
  have h3:∀ x:Int,(Instr.checkKey em 9999 3 (.int .i64 x)).run Tryz.prog w = .ok () w:=fun x=>by
    rw [show (9999:Nat) = 9998 + 1 from rfl]
    unfold Instr.checkKey
    simp only [Sem.run_bind,run_underlying Tryz.underlying3,Result.andThen,Sem.run_pure]
  have p0:(part 3 #[.int .i64 a.1,.int .i64 a.2] 0).run Tryz.prog w = .ok (.int .i64 a.1) w:=by go_simp
  have p1:(part 3 #[.int .i64 a.1,.int .i64 a.2] 1).run Tryz.prog w = .ok (.int .i64 a.2) w:=by go_simp
  rw [show (10000:Nat) = 9999 + 1 from rfl]
  unfold Instr.checkKey
  simp only [Sem.run_bind,run_underlying Tryz.underlying55,Result.andThen]
  simp only [List.forIn_toArray,List.forIn_cons,List.forIn_nil]
  simp [h3,p0,p1,Sem.run_bind,Result.andThen]
/-- The map's rows: each has its key, a number, and was laid at its own time. -/
structure HM (w:World) (r:Nat) (M:List ((Int × Int) × Int)):Prop where
  out:∃ es clock,w.heap[r]? = some (.map es clock)/\es.toList.map (fun e=>(e.key,e.val)) = M.map (fun p=>(VHh p.1,.int .i64 p.2))/\(es.toList.map (·.born)).Nodup/\∀ b∈es.toList.map (·.born),b < clock
/-- Where a handle's row stands, and what it has. -/
def mfind:List ((Int × Int) × Int)->(Int × Int)->Nat->Option (Nat × Int)
  | [],_,_=>none
  | p :: M,h,i=>if h == p.1 then some (i,p.2) else mfind M h (i + 1)
def mval (M:List ((Int × Int) × Int)) (h:Int × Int):Int:=match mfind M h 0 with | some p=>p.2 | none=>0
def mset (M:List ((Int × Int) × Int)) (h:Int × Int) (v:Int):List ((Int × Int) × Int):=match mfind M h 0 with | some p=>M.set p.1 (h,v) | none=>M ++ [(h,v)]
theorem mfind_some:∀ (M:List ((Int × Int) × Int)) (h:Int × Int) (i:Nat) (j:Nat) (v:Int),mfind M h i = some (j,v)->i<=j/\M[j - i]? = some (h,v)
  | [],_,_,_,_,e=>by cases e
  | p :: M, h, i, j, v, e => by
    unfold mfind at e
    by_cases hp:(h == p.1) = true
    · rw [if_pos hp] at e
      cases e
      refine ⟨Nat.le_refl _,?_⟩
      rw [Nat.sub_self,List.getElem?_cons_zero]
      have:h = p.1:=by simpa using hp
      rw [this]
    · rw [if_neg hp] at e
      obtain ⟨h1,h2⟩:=mfind_some M h (i + 1) j v e
      refine ⟨by omega,?_⟩
      rw [show j - i = (j - (i + 1)) + 1 by omega,List.getElem?_cons_succ]
      exact h2
theorem mfind_none : ∀ (M : List ((Int × Int) × Int)) (h : Int × Int) (i : Nat), mfind M h i = none → ∀ p ∈ M, p.1 ≠ h
  | [],_,_,_,p,hp=>by cases hp
  | q :: M, h, i, e, p, hp => by
    unfold mfind at e
    by_cases hq:(h == q.1) = true
    · rw [if_pos hq] at e
      cases e
    · rw [if_neg hq] at e
      rcases List.mem_cons.1 hp with rfl | hp
      · intro e2
        exact hq (by simp [e2])
      · exact mfind_none M h (i + 1) e p hp
theorem mfind_mem {M : List ((Int × Int) × Int)} (hn : (M.map (·.1)).Nodup) {p : (Int × Int) × Int} (hp : p ∈ M) : ∃ j, mfind M p.1 0 = some (j, p.2) := by
  cases e:mfind M p.1 0 with
  | none=>exact absurd rfl (mfind_none M p.1 0 e p hp)
  | some q =>
    obtain ⟨j,v⟩:=q
    obtain ⟨_,h2⟩:=mfind_some M p.1 0 j v e
    obtain ⟨k,hk⟩:=List.mem_iff_getElem?.1 hp
    have hj:=(List.getElem?_eq_some_iff.1 h2).1
    have hkl:=(List.getElem?_eq_some_iff.1 hk).1
    have:j = k:=by
      have h3:(M.map (·.1))[j]? = (M.map (·.1))[k]?:=by
        rw [List.getElem?_map,List.getElem?_map,hk]
        rw [Nat.sub_zero] at h2
        rw [h2]
        rfl
      exact (List.getElem?_inj (by rw [List.length_map];simpa using hj) hn).1 h3
    subst this
    rw [Nat.sub_zero,hk] at h2
    have hv:p.2 = v:=congrArg Prod.snd (Option.some.inj h2)
    exact ⟨j,by rw [hv]⟩
theorem mval_mem {M:List ((Int × Int) × Int)} (hn:(M.map (·.1)).Nodup) {p:(Int × Int) × Int} (hp:p∈M):mval M p.1 = p.2:=by
  obtain ⟨j,hj⟩:=mfind_mem hn hp
  unfold mval
  rw [hj]
theorem mval_out {M:List ((Int × Int) × Int)} {h:Int × Int} (hp:∀ p∈M,p.1≠h):mval M h = 0:=by
  unfold mval
  cases e:mfind M h 0 with
  | none=>rfl
  | some q =>
    obtain ⟨_,h2⟩:=mfind_some M h 0 q.1 q.2 e
    exact absurd rfl (hp _ (List.mem_of_getElem? h2))
theorem mset_keys {M : List ((Int × Int) × Int)} (hn : (M.map (·.1)).Nodup) (h : Int × Int) (v : Int) : ((mset M h v).map (·.1)).Nodup ∧ (∀ g u, (g, u) ∈ mset M h v ↔ (g = h ∧ u = v) ∨ (g ≠ h ∧ (g, u) ∈ M)) := by
  unfold mset
  cases e:mfind M h 0 with
  | none =>
    have hno:=mfind_none M h 0 e
    simp only
    constructor
    · rw [List.map_append, List.nodup_append]
      refine ⟨hn,by simp,fun a ha b hb=>?_⟩
      obtain ⟨p,hp,rfl⟩:=List.mem_map.1 ha
      simp at hb
      subst hb
      exact hno p hp
    · intro g u
      rw [List.mem_append,List.mem_singleton,Prod.mk.injEq]
      constructor
      · rintro (h1 | h1)
        · exact .inr ⟨hno _ h1,h1⟩
        · exact .inl h1
      · rintro (h1 | h1)
        · exact .inr h1
        · exact .inl h1.2
  | some q =>
    obtain ⟨j,u0⟩:=q
    obtain ⟨_,h2⟩:=mfind_some M h 0 j u0 e
    rw [Nat.sub_zero] at h2
    have hj:=(List.getElem?_eq_some_iff.1 h2).1
    have he:=(List.getElem?_eq_some_iff.1 h2).2
    simp only
    have hmap:(M.set j (h,v)).map (·.1) = M.map (·.1):=by
      rw [List.map_set]
      refine List.ext_getElem? fun k=>?_
      rw [List.getElem?_set]
      split
      · rename_i hjk
        subst hjk
        rw [List.getElem?_map,h2]
        simp [hj]
      · rfl
    refine ⟨by rw [hmap];exact hn,fun g u=>?_⟩
    constructor
    · intro hm
      obtain ⟨k,hk⟩:=List.mem_iff_getElem?.1 hm
      rw [List.getElem?_set] at hk
      split at hk
      · (try rw [if_pos (by omega)] at hk)
        cases hk
        exact .inl ⟨rfl,rfl⟩
      · rename_i hne
        refine .inr ⟨fun eg=>hne ?_,List.mem_of_getElem? hk⟩
        subst eg
        have h3:(M.map (·.1))[j]? = (M.map (·.1))[k]?:=by rw [List.getElem?_map,List.getElem?_map,h2,hk];rfl
        exact (List.getElem?_inj (by rw [List.length_map];exact hj) hn).1 h3
    · rintro (⟨rfl, rfl⟩ | ⟨hne, hm⟩)
      · exact List.mem_of_getElem? (i:=j) (by rw [List.getElem?_set_self (by omega)])
      · obtain ⟨k, hk⟩ := List.mem_iff_getElem?.1 hm
        refine List.mem_of_getElem? (i:=k) ?_
        rw [List.getElem?_set_ne (fun ejk=>?_)]
        · exact hk
        · subst ejk
          rw [h2] at hk
          cases hk
          exact hne rfl
theorem mval_set {M : List ((Int × Int) × Int)} (hn : (M.map (·.1)).Nodup) (h : Int × Int) (v : Int) (g : Int × Int) : mval (mset M h v) g = if g = h then v else mval M g := by
  obtain ⟨h1,h2⟩:=mset_keys hn h v
  by_cases e:g = h
  · rw [if_pos e]
    exact mval_mem h1 (p:=(g,v)) ((h2 g v).2 (.inl ⟨e,rfl⟩))
  · rw [if_neg e]
    by_cases hm:∃ u,(g,u)∈M
    · obtain ⟨u, hu⟩ := hm
      rw [mval_mem hn (p:=(g,u)) hu,mval_mem h1 (p:=(g,u)) ((h2 g u).2 (.inr ⟨e,hu⟩))]
    · have a1 : mval M g = 0 := mval_out (fun p hp ep => hm ⟨p.2, by rw [← ep]; exact hp⟩)
      have a2:mval (mset M h v) g = 0:=mval_out (fun p hp ep=>by
        subst ep
        rcases (h2 p.1 p.2).1 hp with h3 | h3
        · exact e h3.1
        · exact hm ⟨p.2,h3.2⟩)
      rw [a1,a2]
theorem run_asking (w:World) (h:Int × Int):∀ (es:List MapEntry) (M:List ((Int × Int) × Int)) (i:Nat),es.map (fun e=>(e.key,e.val)) = M.map (fun p=>(VHh p.1,Value.int .i64 p.2))->(Instr.findAsking 55 (VHh h) es i).run Tryz.prog w = .ok ((mfind M h i).map fun p=>(p.1,.int .i64 p.2)) w
  | [],[],i,_=>rfl
  | [],q :: M,i,he=>by simp at he
  | e :: es,[],i,he=>by simp at he
  | e :: es, q :: M, i, he => by
    simp only [List.map_cons,List.cons.injEq,Prod.mk.injEq] at he
    obtain ⟨⟨hk,hv⟩,hr⟩:=he
    unfold Instr.findAsking
    rw [hk,hv]
    simp only [Sem.run_bind,equal_hand,Result.andThen]
    unfold mfind
    by_cases hp:(h == q.1) = true
    · rw [if_pos hp, if_pos hp]
      rfl
    · rw [if_neg hp, if_neg hp]
      exact run_asking w h es M (i + 1) hr
theorem run_findKey (w : World) (h : Int × Int) (es : List MapEntry) (M : List ((Int × Int) × Int)) (he : es.map (fun e => (e.key, e.val)) = M.map (fun p => (VHh p.1, Value.int .i64 p.2))) : (Instr.findKey 55 (VHh h) es).run Tryz.prog w = .ok ((mfind M h 0).map fun p => (p.1, .int .i64 p.2)) w := by
  unfold Instr.findKey
  simp only [Sem.run_bind,run_underlying Tryz.underlying55,Result.andThen]
  cases es with
  | nil =>
    cases M with
    | nil=>rfl
    | cons q M=>simp at he
  | cons e es =>
    have hk:e.key = VHh (M.head?.map (·.1) |>.getD (0,0)):=by
      cases M with
      | nil=>simp at he
      | cons q M =>
        simp only [List.map_cons,List.cons.injEq,Prod.mk.injEq] at he
        simpa using he.1.1
    have hn:∀ d,(∃ fs,d = TypeDesc.struct fs)->Instr.findNow d (VHh h) (e :: es) 0 = none:=fun d ⟨fs,hd⟩=>by
      subst hd
      unfold Instr.findNow
      rw [hk]
      rfl
    rw [hn _ ⟨_,rfl⟩]
    exact run_asking w h (e :: es) M 0 he
theorem run_lookup {w:World} {r:Nat} {M:List ((Int × Int) × Int)} (hm:HM w r M) (h:Int × Int):(Instr.lookup 164 (.map (some r)) (VHh h) false).run Tryz.prog w = .ok (.int .i64 (mval M h)) w:=by
  obtain ⟨es,clock,hr,he,_,_⟩:=hm.out
  unfold Instr.lookup
  simp only [Sem.run_bind,run_underlying Tryz.underlying164,Result.andThen,run_getObj_map w r es clock hr,Sem.run_pure,check_hand,run_findKey w h es.toList M he]
  unfold mval
  cases mfind M h 0 with
  | none =>
    simp only [Option.map_none,Sem.run_bind,Sem.run_pure,Result.andThen]
    go_simp
  | some p =>
    simp only [Option.map_some,Sem.run_bind,Sem.run_pure,Result.andThen]
    rfl
theorem same_hand (h:Int × Int):Instr.sameBits 10000 (VHh h) (VHh h) = true:=by
  rw [show (10000:Nat) = 9999 + 1 from rfl]
  simp [Instr.sameBits]
theorem stays_hand (w:World) (h:Int × Int):(Instr.keyThatStays (VHh h) (VHh h)).run Tryz.prog w = .ok (VHh h) w:=by
  unfold Instr.keyThatStays
  rw [if_pos (same_hand h)]
  rfl
theorem run_setMap {w:World} {r:Nat} {es:Array MapEntry} {clock:Nat} (hr:w.heap[r]? = some (.map es clock)) (o:Obj):(setObj r o).run Tryz.prog w = .ok () (w.putObj r o):=by
  simp [setObj,Sem.run,hr,World.putObj]
/-- A row's other fields. -/
theorem modify_map {β:Type} {es:Array MapEntry} {i:Nat} {e:MapEntry} (he:es[i]? = some e) (f:MapEntry->MapEntry) (g:MapEntry->β):(es.modify i f).toList.map g = (es.toList.map g).set i (g (f e)):=by
  refine List.ext_getElem? fun k=>?_
  have hi:i < es.size:=(Array.getElem?_eq_some_iff.1 he).1
  rw [List.getElem?_map,Array.getElem?_toList,Array.getElem?_modify,List.getElem?_set]
  by_cases hk:i = k
  · subst hk
    rw [if_pos rfl,if_pos rfl,he]
    simp [hi]
  · rw [if_neg hk,if_neg hk,List.getElem?_map,Array.getElem?_toList]
theorem set_same {β:Type} {l:List β} {i:Nat} {x:β} (h:l[i]? = some x):l.set i x = l:=by
  refine List.ext_getElem? fun k=>?_
  rw [List.getElem?_set]
  split
  · rename_i e
    subst e
    rw [h]
    simp [(List.getElem?_eq_some_iff.1 h).1]
  · rfl
theorem hm_row {es:Array MapEntry} {M:List ((Int × Int) × Int)} (he:es.toList.map (fun e=>(e.key,e.val)) = M.map (fun p=>(VHh p.1,Value.int .i64 p.2))) {i:Nat} {h:Int × Int} {v:Int} (hi:M[i]? = some (h,v)):∃ e,es[i]? = some e/\e.key = VHh h/\e.val = .int .i64 v:=by
  have h1:=congrArg (fun l=>l[i]?) he
  simp only [List.getElem?_map,Array.getElem?_toList,hi,Option.map_some] at h1
  cases hx:es[i]? with
  | none=>rw [hx] at h1;cases h1
  | some e =>
    rw [hx] at h1
    simp only [Option.map_some,Option.some.injEq,Prod.mk.injEq] at h1
    exact ⟨e,rfl,h1.1,h1.2⟩
theorem run_update {w : World} {r : Nat} {M : List ((Int × Int) × Int)} (hm : HM w r M) (h : Int × Int) (v : Int) :
    ∃ w',(Instr.mapUpdate 164 (.map (some r)) (VHh h) (.int .i64 v)).run Tryz.prog w = .ok () w'/\HM w' r (mset M h v)/\w.grownBy w' (some r):=by
  obtain ⟨es,clock,hr,he,hn,hb⟩:=hm.out
  have hlt:=(Array.getElem?_eq_some_iff.1 hr).1
  unfold Instr.mapUpdate
  simp only [Sem.run_bind,run_underlying Tryz.underlying164,Result.andThen,run_getObj_map w r es clock hr,check_hand,run_findKey w h es.toList M he]
  unfold mset
  cases hf:mfind M h 0 with
  | none =>
    simp only [Option.map_none,run_setMap hr]
    refine ⟨_,rfl,⟨_,_,World.putObj_heap_same hlt,?_,?_,?_⟩,grownBy_putObj' _ _ _⟩
    · simp only [Array.toList_push,List.map_append,List.map_cons,List.map_nil,he]
    · simp only [Array.toList_push, List.map_append, List.map_cons, List.map_nil]
      rw [List.nodup_append]
      refine ⟨hn,by simp,fun a ha b hb'=>?_⟩
      simp at hb'
      have:=hb a ha
      omega
    · simp only [Array.toList_push, List.map_append, List.map_cons, List.map_nil]
      intro b hb'
      rcases List.mem_append.1 hb' with hb' | hb'
      · have := hb b hb'
        omega
      · simp at hb'
        omega
  | some q =>
    obtain ⟨i,v0⟩:=q
    obtain ⟨_,h2⟩:=mfind_some M h 0 i v0 hf
    rw [Nat.sub_zero] at h2
    obtain ⟨e,hei,hek,hev⟩:=hm_row he h2
    simp only [Option.map_some,hei,Option.getD_some,hek,Sem.run_bind,stays_hand,Result.andThen,run_setMap hr]
    have hbn:(es.modify i fun e=>{ e with key:=VHh h,val:=.int .i64 v }).toList.map (·.born) = es.toList.map (·.born):=by
      rw [modify_map hei]
      exact set_same (by rw [List.getElem?_map,Array.getElem?_toList,hei];rfl)
    refine ⟨_,rfl,⟨_,_,World.putObj_heap_same hlt,?_,by rw [hbn];exact hn,by rw [hbn];exact hb⟩,grownBy_putObj' _ _ _⟩
    rw [modify_map hei,he,List.map_set]
theorem putObj_same {w:World} {r:Nat} {o:Obj} (h:w.heap[r]? = some o):w.putObj r o = w:=by
  obtain ⟨hl,he⟩:=Array.getElem?_eq_some_iff.1 h
  unfold World.putObj
  congr 1
  refine Array.ext (by simp) fun i h1 h2=>?_
  rw [Array.getElem_setIfInBounds]
  split
  · rename_i e
    subst e
    exact he.symm
  · rfl
/-- An entry that is there is made no other one; then it is written. -/
theorem run_entry {w : World} {r : Nat} {M : List ((Int × Int) × Int)} (hm : HM w r M) {h : Int × Int} {i : Nat} {v : Int} (hf : mfind M h 0 = some (i, v)) :
    ∃ s : Nat, (∀ w', HM w' r M → w'.heap[r]? = w.heap[r]? → (Instr.mapEntry 164 (.map (some r)) (VHh h)).run Tryz.prog w' = .ok (.tuple #[.int .i64 v, .int .i64 s]) w') ∧
      ∀ w' u,w'.heap[r]? = w.heap[r]?->∃ w'',(Instr.entryStore 164 (.map (some r)) (.int .i64 s) (.int .i64 u)).run Tryz.prog w' = .ok () w''/\HM w'' r (mset M h u)/\w'.grownBy w'' (some r):=by
  obtain ⟨es,clock,hr,he,hn,hb⟩:=hm.out
  obtain ⟨_,h2⟩:=mfind_some M h 0 i v hf
  rw [Nat.sub_zero] at h2
  obtain ⟨e,hei,hek,hev⟩:=hm_row he h2
  have hi:i < es.size:=(Array.getElem?_eq_some_iff.1 hei).1
  refine ⟨e.born,fun w' _ hw=>?_,fun w' u hw=>?_⟩
  · have hr' := hw.trans hr
    have hes:(es.modify i fun e=>{ e with key:=VHh h }) = es:=by
      refine Array.ext' ?_
      have:=modify_map hei (fun e=>{ e with key:=VHh h }) id
      rw [List.map_id,List.map_id] at this
      rw [this]
      refine set_same ?_
      rw [Array.getElem?_toList,hei]
      rw [← hek]
      rfl
    unfold Instr.mapEntry
    simp only [Sem.run_bind,run_underlying Tryz.underlying164,Result.andThen,run_getObj_map w' r es clock hr',check_hand,run_findKey w' h es.toList M he,hf,Option.map_some,hei,Option.getD_some,hek,stays_hand,run_setMap hr',hes,putObj_same hr',Sem.run_pure]
    rfl
  · have hr' := hw.trans hr
    have hlt:=(Array.getElem?_eq_some_iff.1 hr').1
    have hidx:es.findIdx? (fun x=>(x.born:Int) == (e.born:Int)) = some i:=by
      rw [Array.findIdx?_eq_some_iff_getElem]
      refine ⟨hi,?_,fun j hj=>?_⟩
      · rw [(Array.getElem?_eq_some_iff.1 hei).2]
        simp
      · intro hc
        have hc':(es[j]'(by omega)).born = e.born:=by
          have h0:((es[j]'(by omega)).born:Int) = (e.born:Int):=by simpa using hc
          omega
        have h3:(es.toList.map (·.born))[j]? = (es.toList.map (·.born))[i]?:=by
          rw [List.getElem?_map,List.getElem?_map,Array.getElem?_toList,Array.getElem?_toList,hei,Array.getElem?_eq_getElem (by omega)]
          simp [hc']
        have:=(List.getElem?_inj (by rw [List.length_map,Array.length_toList];omega) hn).1 h3
        omega
    unfold Instr.entryStore
    simp only [Sem.run_bind,Result.andThen,run_getObj_map w' r es clock hr',asInt,asIntOf,Sem.run_pure,hidx,run_setMap hr']
    have hbn:(es.modify i fun e=>{ e with val:=.int .i64 u }).toList.map (·.born) = es.toList.map (·.born):=by
      rw [modify_map hei]
      exact set_same (by rw [List.getElem?_map,Array.getElem?_toList,hei];rfl)
    refine ⟨_,rfl,⟨_,_,World.putObj_heap_same hlt,?_,by rw [hbn];exact hn,by rw [hbn];exact hb⟩,grownBy_putObj' _ _ _⟩
    unfold mset
    rw [hf,modify_map hei,he,List.map_set,hek]
/-- A range over the map: the rows whose times are not among those seen are left. -/
structure HR (w:World) (r t:Nat) (M:List ((Int × Int) × Int)) (es:Array MapEntry) (seen:Array Nat):Prop where
  rows:es.toList.map (fun e=>(e.key,e.val)) = M.map (fun p=>(VHh p.1,Value.int .i64 p.2))
  born:(es.toList.map (·.born)).Nodup
  it:∃ clock,w.heap[r]? = some (.map es clock)/\w.heap[t]? = some (.mapIter (some r) clock seen clock)/\∀ b∈es.toList.map (·.born),b < clock
/-- The rows that are left. -/
def leftM (es:Array MapEntry) (seen:Array Nat):List MapEntry:=es.toList.filter fun e=>!seen.contains e.born
theorem run_range {w:World} {r:Nat} {M:List ((Int × Int) × Int)} (hm:HM w r M) :
    ∃ es clock,(Instr.range 164 (.map (some r))).run Tryz.prog w = .ok (.pointer (some ⟨w.heap.size,0,none⟩)) (w.alloc (.mapIter (some r) clock #[] clock))/\HR (w.alloc (.mapIter (some r) clock #[] clock)) r w.heap.size M es #[]:=by
  obtain ⟨es,clock,hr,he,hn,hb⟩:=hm.out
  refine ⟨es,clock,?_,he,hn,clock,(Below.heap_alloc _ _ _ (Array.getElem?_eq_some_iff.1 hr).1).trans hr,World.alloc_heap_new w _,hb⟩
  unfold Instr.range
  simp only [Sem.run_bind,run_underlying Tryz.underlying164,Result.andThen,run_getObj_map w r es clock hr,Sem.run_pure,run_newObj_alloc]
theorem run_next {w:World} {r t:Nat} {M:List ((Int × Int) × Int)} {es:Array MapEntry} {seen:Array Nat} (h:HR w r t M es seen) (ty:TypeId) :
    (leftM es seen = []/\(Instr.next (.pointer (some ⟨t,0,none⟩)) false ty).run Tryz.prog w = .ok (.tuple #[.bool false]) w) ∨
    ∃ e, e ∈ leftM es seen ∧ ∃ p ∈ M, e.key = VHh p.1 ∧ e.val = .int .i64 p.2 ∧ ∃ w', (Instr.next (.pointer (some ⟨t, 0, none⟩)) false ty).run Tryz.prog w = .ok (.tuple #[.bool true, VHh p.1, .int .i64 p.2]) w' ∧ HR w' r t M es (seen.push e.born) ∧ w.grownBy w' (some t) ∧
      (Instr.entry (.pointer (some ⟨t,0,none⟩))).run Tryz.prog w' = .ok (.tuple #[VHh p.1,.int .i64 p.2]) w':=by
  obtain ⟨clock,hr,ht,hb⟩:=h.it
  have hlt:=(Array.getElem?_eq_some_iff.1 ht).1
  have hrt:r≠t:=fun e=>by rw [e,ht] at hr;cases hr
  rcases run_next_at (P:=Tryz.prog) w ty t r clock clock seen es clock ht hr (fun x hx=>hb x.born (List.mem_map.2 ⟨x,hx,rfl⟩)) (Nat.le_refl _) with ⟨h0,hrun⟩ | ⟨e,he,w1,hw1,hrun⟩
  · refine .inl ⟨?_, hrun⟩
    unfold leftM
    have:(leftOf es seen).toList = []:=by rw [← List.length_eq_zero_iff,Array.length_toList];exact h0
    simpa [leftOf] using this
  · have hel : e ∈ leftM es seen := by
      unfold leftM
      simpa [leftOf] using he
    have hee:e∈es.toList:=(List.mem_filter.1 hel).1
    obtain ⟨p,hp,hpe⟩:∃ p∈M,(VHh p.1,Value.int .i64 p.2) = (e.key,e.val):=by
      have:(e.key,e.val)∈M.map (fun p=>(VHh p.1,Value.int .i64 p.2)):=by rw [← h.rows];exact List.mem_map.2 ⟨e,hee,rfl⟩
      obtain ⟨p,hp,hq⟩:=List.mem_map.1 this
      exact ⟨p,hp,hq⟩
    simp only [Prod.mk.injEq] at hpe
    have hk1:∀ k:Nat,w1.heap[k]? = w.heap[k]?:=fun k=>by rcases hw1 with rfl | rfl <;> rfl
    have hset:∀ k:Nat,k≠t->(ChangeMaps.setBlock w1 t (.mapIter (some r) clock (seen.push e.born) clock)).heap[k]? = w.heap[k]?:=fun k hk=>by
      unfold ChangeMaps.setBlock
      rw [Array.getElem?_setIfInBounds_ne (Ne.symm hk)]
      exact hk1 k
    have hself:(ChangeMaps.setBlock w1 t (.mapIter (some r) clock (seen.push e.born) clock)).heap[t]? = some (.mapIter (some r) clock (seen.push e.born) clock):=by
      unfold ChangeMaps.setBlock
      have:t < w1.heap.size:=by rcases hw1 with rfl | rfl <;> exact hlt
      simp [this]
    refine .inr ⟨e,hel,p,hp,hpe.1.symm,hpe.2.symm,_,by rw [hrun,hpe.1,hpe.2],⟨h.rows,h.born,clock,(hset r hrt).trans hr,hself,hb⟩,⟨?_,?_,?_,?_,fun k hk hne=>hset k (fun e=>hne (by rw [e]))⟩,?_⟩
    · rcases hw1 with rfl | rfl <;> rfl
    · rcases hw1 with rfl | rfl <;> rfl
    · rcases hw1 with rfl | rfl <;> rfl
    · rcases hw1 with rfl | rfl <;> simp [ChangeMaps.setBlock]
    · rw [hpe.1, hpe.2]
      exact run_entry_at _ t r clock seen es clock e hself ((hset r hrt).trans hr) hee h.born
theorem leftM_less {es:Array MapEntry} {seen:Array Nat} {e:MapEntry} (h:e∈leftM es seen):(leftM es (seen.push e.born)).length < (leftM es seen).length:=by
  unfold leftM at h ⊢
  have hsub:(es.toList.filter fun x=>!(seen.push e.born).contains x.born) = ((es.toList.filter fun x=>!seen.contains x.born).filter fun x=>!(x.born == e.born)):=by
    rw [List.filter_filter]
    refine List.filter_congr fun x _=>?_
    simp
    cases hb:decide (x.born∈seen) <;> by_cases hx:x.born = e.born <;> simp_all
  rw [hsub]
  refine Nat.lt_of_le_of_ne (List.length_filter_le _ _) (fun hl=>?_)
  have:=(List.length_filter_eq_length_iff.1 hl) e h
  simp at this
end Go.Proofs.YtggoccfddnpelaaGreat
namespace Go.Proofs.YtggoccfddnpelaaGreat
open It
set_option maxRecDepth 100000
namespace Sp
abbrev En:=ByteArray × Int × Int × Int
def entsAt (L:List Ino) (no:Nat):List En:=match L[no]? with | some x=>x.ents | none=>[]
def dirAt (L:List Ino) (no:Nat):Bool:=match L[no]? with | some x=>x.kind == 2 | none=>false
def way (p:ByteArray) (s:ByteArray):ByteArray:=p ++ ⟨#[47]⟩ ++ s
/-- A folder, then the folders below it. -/
def walk (L:List Ino):Nat->Nat->ByteArray->List (Nat × ByteArray)
  | 0,_,_=>[]
  | f + 1,no,path=>(no,path) :: (entsAt L no).flatMap fun e=>if dirAt L e.2.2.1.toNat then walk L f e.2.2.1.toNat (way path e.1) else []
def step (L:List Ino) (f:Nat) (path:ByteArray) (e:En):List (Nat × ByteArray):=if dirAt L e.2.2.1.toNat then walk L f e.2.2.1.toNat (way path e.1) else []
theorem walk_succ (L:List Ino) (f no:Nat) (path:ByteArray):walk L (f + 1) no path = (no,path) :: (entsAt L no).flatMap (step L f path):=rfl
/-- The folders below a folder are no deeper than f. -/
def deep (L:List Ino):Nat->Nat->Prop
  | 0,_=>False
  | f + 1,no=>no < L.length/\∀ e∈entsAt L no,(0<=e.2.2.1/\e.2.2.1 < L.length/\e.1.size<=32)/\(dirAt L e.2.2.1.toNat = true->deep L f e.2.2.1.toNat)
/-- What is gone through ahead of the j-th entry. -/
def upto (L:List Ino) (f no:Nat) (path:ByteArray) (j:Nat):List (Nat × ByteArray):=(no,path) :: ((entsAt L no).take j).flatMap (step L f path)
theorem upto_zero (L:List Ino) (f no:Nat) (path:ByteArray):upto L f no path 0 = [(no,path)]:=by simp [upto]
theorem upto_succ {L:List Ino} {f no:Nat} {path:ByteArray} {j:Nat} {e:En} (h:(entsAt L no)[j]? = some e):upto L f no path (j + 1) = upto L f no path j ++ step L f path e:=by
  unfold upto
  rw [List.take_add_one,h,List.cons_append]
  simp
theorem upto_all {L:List Ino} {f no:Nat} {path:ByteArray} {j:Nat} (h:(entsAt L no).length = j):upto L f no path j = walk L (f + 1) no path:=by
  unfold upto
  rw [walk_succ,← h,List.take_length]
theorem upto_pre (L:List Ino) (f no:Nat) (path:ByteArray) (j:Nat):upto L f no path j <+: walk L (f + 1) no path:=by
  unfold upto
  rw [walk_succ]
  refine ⟨((entsAt L no).drop j).flatMap (step L f path),?_⟩
  rw [List.cons_append,← List.flatMap_append,List.take_append_drop]
theorem step_dir {L:List Ino} {f:Nat} {path:ByteArray} {e:En} (h:dirAt L e.2.2.1.toNat = true):step L f path e = walk L f e.2.2.1.toNat (way path e.1):=if_pos h
theorem step_file {L:List Ino} {f:Nat} {path:ByteArray} {e:En} (h:dirAt L e.2.2.1.toNat = false):step L f path e = []:=by unfold step;rw [if_neg (by rw [h];simp)]
theorem way_size (p s:ByteArray):(way p s).size = p.size + 1 + s.size:=by
  unfold way
  rw [ByteArray.size_append,ByteArray.size_append]
  rfl
end Sp
end Go.Proofs.YtggoccfddnpelaaGreat
