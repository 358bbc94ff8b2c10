import Derived.Test.YtmjekklgefdolaaGreatDoorRows
import Derived.Test.YtmjekklgefdolaaGreatDoorCards
import Derived.Test.YtmjekklgefdolaaGreatDoorTie
import Derived.ProofKit
import Derived.OpenShut
import Derived.Deep.Slices
import Derived.Deep.DeepHandedRow
import Derived.Lib.LaidTab
import Derived.SizedLaws
import Derived.Stop.LaidErr
import Derived.Test.YtmjekklgefdolaaGreatDoorWr5
namespace Go.Proofs.YtmjekklgefdolaaGreatDoor
open Go.RowKit
theorem infoOp:(Tryz.prog.info? 28).map (fun i=>(i.zero,i.size,i.bytes))=some (some (.agg #[.int .i64 0,.int .i64 0,.int .i64 0,.int .i64 0,.string ⟨#[]⟩,.string ⟨#[]⟩]),6,64):=by kernel_rfl
theorem wpList_append_op {ops:Array Oper} {rest:List Oper} {o:Oper} {a:Act} {w:World} {Q:Exit→Act→World→Prop} (hgd:o.guard=none) (s x:Operand)
  (ho:o.op = .call { callee:=.builtin .append,args:=#[s,x],argTypes:=#[22,22] })
  (base:Nat) (v:Value) (n:Nat) (xs:List Value) (hs:a.eval s=v) (hown:Row w base 28 6 v n xs)
  (g:Nat) (p:OpR) (hx:a.eval x = .slice (some ⟨g,0,none⟩) 1 1) (hnew:∀ j u,p.cells[j]? = some u→w.cell? ⟨g,j,none⟩=some u) (hn:n≤1099511627) (hb:base≤w.heap.size)
  (h:∀ v' w',Row w' base 28 6 v' (n+1) (xs++p.cells)→w.grownBy w' v.ownBlock→(v'.ownBlock=v.ownBlock∨∃ g,v'.ownBlock=some g∧w.heap.size≤g)→wpList Tryz.prog ops Q rest (a.put o.dst v') w'):wpList Tryz.prog ops Q (o::rest) a w:=by
 obtain ⟨i0,hi,hz0,hz1,hz2⟩:=info_parts infoOp
 refine wpList_plain hgd fun _ hK=>?_
 refine wp_append_row s x 22 ho i0 _ 64 Tryz.underlying22 hi hz0 hz1 hz2 rfl (by decide) v n xs hs hown ⟨g,0,none⟩ 1 1 p.cells hx rfl ?_ ?_ ?_ ?_ hb ?_
 ·intro j u hj
  rw[Addr.add_mid,Nat.zero_add]
  exact hnew j u hj
 ·intro u hu'
  simp only[OpR.cells,List.mem_cons,List.not_mem_nil,or_false] at hu'
  rcases hu' with rfl | rfl | rfl | rfl | rfl | rfl <;> rfl
 ·unfold maxLen;omega
 ·omega
 ·intro v' w' h3 h4 h5
  exact hK _ _ (h v' w' h3 h4 h5)
theorem flat_six:∀ (l:List OpR) (i j:Nat) (p:OpR) (u:Value),l[i]? = some p→p.cells[j]? = some u→(l.flatMap OpR.cells)[i*6+j]? = some u
 | [],i,j,p,u,h,_=>by simp at h
 | q::l,0,j,p,u,h,hu=>by
  simp at h;subst h
  have hl:j<q.cells.length:=(List.getElem?_eq_some_iff.1 hu).1
  rw[List.flatMap_cons,Nat.zero_mul,Nat.zero_add,List.getElem?_append_left hl]
  exact hu
 | q::l,i+1,j,p,u,h,hu=>by
  have e:(i+1)*6+j=q.cells.length+(i*6+j):=by show _=6+_;omega
  rw[List.flatMap_cons,e,List.getElem?_append_right (by omega),Nat.add_sub_cancel_left]
  exact flat_six l i j p u (by simpa using h) hu
theorem Script.of_row {w:World} {base:Nat} {v:Value} {l:List OpR} (h:Row w base 28 6 v l.length (l.flatMap OpR.cells)):Script w v l:=by
 rcases Nat.eq_zero_or_pos l.length with h0 | h0
 ·refine .inl ⟨List.length_eq_zero_iff.1 h0,?_⟩
  rcases h.2 with ⟨rfl,_⟩ | ⟨g,cap,cur,rfl,_⟩
  ·exact ⟨none,0,rfl⟩
  ·rw[h0];exact ⟨_,_,rfl⟩
 ·obtain ⟨g,cap,cur,rfl,_,hB,_,_,_,htk⟩:=h.open h0
  refine .inr ⟨g,0,cap,rfl,fun i p hp j u hu=>?_⟩
  rw[Nat.zero_add]
  exact hB.cell (take_at htk (flat_six l i j p u hp hu))
def kept (ks:List Int) (p:OpR):Bool:=ownK p.kind || ks.contains p.kind
def Kinds (w:World) (g:Nat) (ks:List Int):Prop:=∀ j k,ks[j]? = some k→w.cell? ⟨g,j,none⟩=some (.int .i64 k)
theorem contains_take (ks:List Int) (q:Nat) (x y:Int) (h:ks[q]? = some y):(ks.take (q+1)).contains x=((ks.take q).contains x || x==y):=by
 obtain ⟨hq,rfl⟩:=List.getElem?_eq_some_iff.1 h
 rw[List.take_succ_eq_append_getElem hq]
 simp only[List.contains_eq_mem,List.mem_append,List.mem_singleton,Bool.decide_or]
 rfl
theorem filter_take (l:List OpR) (f:OpR→Bool) (k:Nat) (p:OpR) (h:l[k]? = some p):(l.take (k+1)).filter f=(l.take k).filter f++(if f p then [p] else []):=by
 obtain ⟨hk,rfl⟩:=List.getElem?_eq_some_iff.1 h
 rw[List.take_succ_eq_append_getElem hk,List.filter_append]
 congr 1
 by_cases h:f l[k] <;> simp[h]
theorem total_filter (f:OpR→Bool):∀ l:List OpR,total (l.filter f)≤total l
 | []=>Nat.le_refl _
 | p::l=>by
  have ih:=total_filter f l
  by_cases h:f p
  ·rw[List.filter_cons_of_pos h]
   show p.s.size+p.t.size+total _≤p.s.size+p.t.size+total _
   omega
  ·rw[List.filter_cons_of_neg h]
   show total _≤p.s.size+p.t.size+total _
   omega
set_option maxRecDepth 100000 in
set_option maxHeartbeats 800000 in
theorem plays_any (v:Value) (l:List OpR) (ks:List Int) (gk:Nat) (w:World) (hv:Script w v l) (hks:Kinds w gk ks) (hkl:ks.length≤100) (hk:KTab w) (hh:HTab w) (h2:2≤w.heap.size) (hok:∀ p ∈ l,p.ok) (hl:l.length≤1152921504606846976)
  (hp:∀ (b:Nat) (o:OpR),o.ok→kept ks o=true→50≤o.kind→Step 10 b b o)
  (he:∀ (b:Nat) (o:OpR),o.ok→kept ks o=true→30≤o.kind→o.kind<50→Step 11 b b o)
  (hd:∀ (b:Nat) (o:OpR),o.ok→kept ks o=true→o.kind<30→Step 12 b b o):
  Calls Tryz.prog 6 #[v,.slice (some ⟨gk,0,none⟩) ks.length ks.length] w fun e w'=>e = .returned (.bool true)∧Below w.heap.size w w':=by
 have hv0:=hv
 obtain ⟨ao,ca,rfl,hca⟩:∃ ao c,v = .slice ao l.length c∧∀ i p,l[i]? = some p→∃ g o,ao=some ⟨g,o,none⟩∧∀ j u,p.cells[j]? = some u→w.cell? ⟨g,o+i*6+j,none⟩=some u:=by
  rcases hv with ⟨rfl,ao,c,rfl⟩ | ⟨g,o,c,rfl,h⟩
  ·exact ⟨ao,c,rfl,fun i x h=>by simp at h⟩
  ·exact ⟨_,c,rfl,fun i x hx=>⟨g,o,rfl,h i x hx⟩⟩
 have HSM:=hide (small_any _ l w hv0 hok hl)
 have HCA:=hide hca
 have HP:=hide hp
 have HE:=hide he
 have HD:=hide hd
 have HKT:=hide hk
 have HHT:=hide hh
 have HOK:=hide hok
 have HKS:=hide hks
 clear hv hv0 hk hh hca hp he hd hok hks
 generalize hnk:ks.length=nk at *
 have HNK:=hide hnk
 clear hnk
 by_cases hsm:smallB l=true
 ·have hle:l.length+total l≤1073741824:=of_decide_eq_true hsm
  rw[hsm] at HSM
  generalize hn:l.length=n at *
  have HN:=hide hn
  clear hn hsm
  go_enter Tryz.func6,Tryz.ntmps6
  go_wp2_with fail
  refine HSM.out.mono ?_
  rintro e w1 ⟨rfl,m1,rfl⟩
  go_wp2
  go_loopw [6,7] (fun vl i wr=>∃ k:Nat,k≤n∧i = .int .i64 k∧Row wr w.heap.size 28 6 vl ((l.take k).filter (kept ks)).length (((l.take k).filter (kept ks)).flatMap OpR.cells)∧Below w.heap.size w wr) (fun _ i _=>n-(intOf i).toNat)
  case atStart=>exact ⟨0,by omega,rfl,by simpa using Row.nil _ _ _ _,below_drewN (Below.refl _ _) _⟩
  case round=>
   obtain ⟨k,hk,rfl,hR,hB⟩:=hrel
   by_cases hlt:k<n
   ·have hkl':k<l.length:=by rw[HN.out];exact hlt
    obtain ⟨p,hgk⟩:∃ p,l[k]? = some p:=⟨_,List.getElem?_eq_getElem hkl'⟩
    obtain ⟨g,o,rfl,hc⟩:=HCA.out k _ hgk
    have HF:=hide (filter_take l (kept ks) k p hgk)
    have hfl:((l.take k).filter (kept ks)).length≤n:=by
     have:=List.length_filter_le (kept ks) (l.take k)
     simp only[List.length_take] at this
     omega
    have cl:∀ j u,p.cells[j]? = some u→w.cell? ⟨g,o+k*6+j,none⟩=some u:=hc
    have HCL:=hide cl
    have HR:=hide hR
    have HB:=hide hB
    have c0:wr.cell? ⟨g,o+k*6,none⟩=some (.int .i64 p.kind):=by
     have h1:=hc 0 _ rfl
     rw[←h1]
     exact hB.cell (World.block_lt_of_cell? w _ h1)
    clear hR hB hc cl hgk
    generalize (l.take k).filter (kept ks)=fl at *
    go_wp2_with fail
    refine (own_any p.kind _).mono ?_
    rintro e wr ⟨rfl,rfl⟩
    generalize hbo:ownK p.kind=bo at *
    have HBO:=hide hbo
    clear hbo
    go_wp2
    go_loopw [8,9] (fun b j w2=>∃ q m:Nat,q≤nk∧j = .int .i64 q∧b = .bool (bo || (ks.take q).contains p.kind)∧w2=wr.drewN m) (fun _ j _=>nk-(intOf j).toNat)
    case atStart=>exact ⟨0,0,by omega,rfl,by simp,rfl⟩
    case round=>
     obtain ⟨q,m,hq,rfl,rfl,rfl⟩:=hrel
     by_cases hlq:q<nk
     ·obtain ⟨y,hy⟩:∃ y,ks[q]? = some y:=⟨_,List.getElem?_eq_getElem (by rw[HNK.out];exact hlq)⟩
      have hky:=HKS.out q y hy
      have HCT:=hide (contains_take ks q p.kind y hy)
      have d0:wr.cell? ⟨gk,q,none⟩=some (.int .i64 y):=by
       rw[←hky]
       exact HB.out.cell (World.block_lt_of_cell? w _ hky)
      clear hky hy
      generalize hbb:(bo || (ks.take q).contains p.kind)=b at *
      have HBB:=hide hbb
      clear hbb
      refine wp_letterW (fun w'=>(∃ m,w'=wr.drewN m)∧w'.cell? ⟨g,o+k*6,none⟩=some (.int .i64 p.kind)∧w'.cell? ⟨gk,q,none⟩=some (.int .i64 y)) ⟨⟨m,rfl⟩,by simpa using c0,by simpa using d0⟩ ?_
      clear c0 d0
      rintro wq ⟨hm,c0,d0⟩
      cases b
      ·go_wp2
       go_quiet (fail)
       go_wp2
       go_roundw
       case rel=>
        obtain ⟨m',rfl⟩:=hm
        exact ⟨q+1,m'+nq,by omega,by go_num,by rw[HCT.out,←Bool.or_assoc,HBB.out,Bool.false_or],by simp⟩
       case measure=>simp[intOf];omega
      ·go_wp2
       go_quiet (fail)
       go_wp2
       go_roundw
       case rel=>
        obtain ⟨m',rfl⟩:=hm
        exact ⟨q+1,m'+nq,by omega,by go_num,by rw[HCT.out,←Bool.or_assoc,HBB.out,Bool.true_or],by simp⟩
       case measure=>simp[intOf];omega
     ·have hqn:q=nk:=by omega
      have hbk:(bo || (ks.take q).contains p.kind)=kept ks p:=by
       rw[hqn,List.take_of_length_le (by rw[HNK.out];exact Nat.le_refl _),←HBO.out];rfl
      rw[hbk]
      have HRm:Row (wr.drewN m) w.heap.size 28 6 u6 fl.length (fl.flatMap OpR.cells):=HR.out
      have HBm:Below w.heap.size w (wr.drewN m):=below_drewN HB.out m
      clear hbk
      cases hkp:kept ks p
      ·have HFF:=hide (show (l.take (k+1)).filter (kept ks)=fl by rw[HF.out,hkp];simp)
       replace HRm:=hide HRm
       replace HBm:=hide HBm
       clear hkp
       go_wp2
       go_roundw
       case rel=>
        refine ⟨k+1,by omega,by go_num,?_,HBm.out⟩
        rw[HFF.out]
        exact HRm.out
       case measure=>simp[intOf];omega
      ·have HFF:=hide (show (l.take (k+1)).filter (kept ks)=fl++[p] by rw[HF.out,hkp];simp)
       refine wp_letterW (fun w'=>Row w' w.heap.size 28 6 u6 fl.length (fl.flatMap OpR.cells)∧Below w.heap.size w w') ⟨HRm,HBm⟩ ?_
       clear hkp HRm HBm
       rintro wq ⟨hRq,hBq⟩
       have cl:∀ j u,p.cells[j]? = some u→wq.cell? ⟨g,o+k*6+j,none⟩=some u:=fun j u hu=>by
        have h1:=HCL.out j u hu
        rw[←h1]
        exact hBq.cell (World.block_lt_of_cell? w _ h1)
       have e0:wq.cell? ⟨g,o+k*6,none⟩=some (.int .i64 p.kind):=cl 0 _ rfl
       have e1:=cl 1 _ rfl
       have e2:=cl 2 _ rfl
       have e3:=cl 3 _ rfl
       have e4:=cl 4 _ rfl
       have e5:=cl 5 _ rfl
       have HRq:=hide hRq
       have HBq:=hide hBq
       clear hRq hBq cl c0
       go_wp2_with (at_builtin;refine wpList_append_op rfl (.tmp 46) (.tmp 51) rfl w.heap.size _ fl.length _ rfl (HRq.out.alloc _) _ p rfl (fun j u hu=>(Blk.new rfl rfl:Blk _ _ _ p.cells).cell hu) ?_ ?_ ?_;omega;(have:=HBq.out.size;simp;omega);intro v1 w1 hr1 hg1 hat1;replace hr1:=hide hr1;replace hg1:=hide hg1)
       go_roundw
       case rel=>
        refine ⟨k+1,by omega,by go_num,?_,?_⟩
        ·rw[HFF.out]
         simpa [List.flatMap_append] using hr1.out
        ·have hg:=hg1.out
         have hz:=HBq.out.size
         exact (HBq.out.alloc HBq.out.size _).trans ⟨hg.os,hg.tape,hg.output,hg.size,fun g hgl=>hg.block g (by simp;omega) (fun e=>by have:=(HRq.out.lt g e.symm).1;omega)⟩
       case measure=>simp[intOf];omega
   ·have hkn:k=n:=by omega
    have htn:l.take k=l:=List.take_of_length_le (by rw[HN.out];omega)
    rw[htn] at hR
    have h2r:2≤wr.heap.size:=Nat.le_trans h2 hB.size
    have hfm:∀ o,o ∈ l.filter (kept ks)→o.ok∧kept ks o=true:=fun o ho=>⟨HOK.out o (List.mem_filter.1 ho).1,(List.mem_filter.1 ho).2⟩
    have hub:(l.filter (kept ks)).length+total (l.filter (kept ks))≤1073741824:=by
     have h1:=total_filter (kept ks) l
     have h2:=List.length_filter_le (kept ks) l
     rw[HN.out] at h2
     omega
    have HUP:=hide (upTo_any u6 (l.filter (kept ks)) wr (Script.of_row hR) (HKT.out.below hB h2) (HHT.out.below hB h2) h2r hub
     (fun o ho h50=>HP.out _ o (hfm o ho).1 (hfm o ho).2 h50) (fun o ho h30 h50=>HE.out _ o (hfm o ho).1 (hfm o ho).2 h30 h50) (fun o ho h30=>HD.out _ o (hfm o ho).1 (hfm o ho).2 h30))
    have HB:=hide hB
    clear hR hB htn hfm hub h2r
    go_wp2_with fail
    refine HUP.out.mono ?_
    rintro e w5 ⟨rfl,hb5⟩
    have HF:=hide (HB.out.trans (hb5.mono HB.out.size))
    clear hb5
    go_wp2
    go_ret
    exact ⟨rfl,HF.out⟩
 ·have hsf:smallB l=false:=by simpa using hsm
  rw[hsf] at HSM
  generalize hn:l.length=n at *
  have HN:=hide hn
  clear hn hsm hsf
  go_enter Tryz.func6,Tryz.ntmps6
  go_wp2_with fail
  refine HSM.out.mono ?_
  rintro e w1 ⟨rfl,m1,rfl⟩
  go_wp2
  go_ret
  exact ⟨rfl,below_drewN (Below.refl _ _) _⟩
end Go.Proofs.YtmjekklgefdolaaGreatDoor
namespace Go.Proofs.YtmjekklgefdolaaGreatDoor
open Go.ChangeShapes Go.WideShapes Go.ChangeAt Go.RowKit Go.Deep
theorem own:ownKnob Tryz.prog.godebug=none:=by kernel_rfl
theorem laidOut:laidOutB Tryz.prog=true:=by kernel_rfl
theorem gH : Tryz.prog.globalNamed "strongbox/sha2.firstWords" = some 0 := by kernel_rfl
theorem gK : Tryz.prog.globalNamed "strongbox/sha2.roundWords" = some 1 := by kernel_rfl
theorem gHt:(Tryz.prog.globals[0]?).map (·.type)=some 131:=by kernel_rfl
theorem gKt:(Tryz.prog.globals[1]?).map (·.type)=some 214:=by kernel_rfl
theorem c8:Tryz.prog.cellsOf 131=8:=by kernel_rfl
theorem c64:Tryz.prog.cellsOf 214=64:=by kernel_rfl
theorem c32:Tryz.prog.cellsOf 130=1:=by kernel_rfl
theorem tabs2 {W : World} (h' : laidMet Tryz.prog [("strongbox/sha2.firstWords", Lib.tabData .u32 (Sha.H0.list.map fun (n : Nat) => (n : Int))), ("strongbox/sha2.roundWords", Lib.tabData .u32 (Sha.Kt.map fun (n : Nat) => (n : Int)))] W) : HTab W ∧ KTab W := by
 have t1:=Lib.tabIs_of_head gH gHt Tryz.underlying131 Tryz.underlying130 c32 c8 h'
 have t2:=Lib.tabIs_of_head gK gKt Tryz.underlying214 Tryz.underlying130 c32 c64 h'.tail
 refine ⟨fun i hi=>?_,fun i hi=>?_⟩
 ·have hl:i<Sha.H0.list.length:=hi
  rw[t1.cell gH i (by simpa using hl)]
  simp[Sha.wAt,List.getD,hl]
 ·have hl:i<Sha.Kt.length:=hi
  rw[t2.cell gK i (by simpa using hl)]
  simp[Sha.wAt,List.getD,hl]
def laidIn (ns:List Nat):Obj→Obj
 | .cells _ t frozen=>.cells (ns.map fun (n:Nat)=>Value.int .u32 (n:Int)).toArray t frozen
 | o=>o
def laidWorld (P:Program) (os:Os):World:=
 { World.holding P os ⟨#[],#[],[]⟩ with heap:=((World.holding P os ⟨#[],#[],[]⟩).heap.modify 0 (laidIn Sha.H0.list)).modify 1 (laidIn Sha.Kt) }
theorem cInt:Tryz.prog.cellsOf 3=1:=by kernel_rfl
theorem cStr:Tryz.prog.cellsOf 9=1:=by kernel_rfl
theorem cOp:Tryz.prog.cellsOf 28=6:=by kernel_rfl
theorem bOp:Tryz.prog.bytesOf 28=64:=by kernel_rfl
def opD {H:Type} (p:OpR):DataW H:=.agg [.lit (.int .i64 p.kind),.lit (.int .i64 p.a),.lit (.int .i64 p.b),.lit (.int .i64 p.c),.lit (.string p.s.data.toList),.lit (.string p.t.data.toList)]
theorem six {α:Type} {l:List α} (h:l.length=6):∃ a b c d e f,l=[a,b,c,d,e,f]:=by
 match l,h with
 | [a,b,c,d,e,f],_=>exact ⟨a,b,c,d,e,f,rfl⟩
theorem wf64 {n:Int} (h:(Lit.int .i64 n).wf=true) : -9223372036854775808≤n∧n≤9223372036854775807:=by
 simp only[Lit.wf,Bool.and_eq_true,decide_eq_true_eq] at h
 have h1:IntKind.i64.min = -9223372036854775808:=rfl
 have h2:IntKind.i64.max=9223372036854775807:=rfl
 omega
theorem open_op {H:Type} {enc:TypeId × Value→H} {W:World} {n:Nat} {cs:List Value} {d:DataW H} {pl:List MemPlace} (h:DataW.trod enc Tryz.prog W 0 (fun _=>true) true n 28 cs=some (d,pl)):
  ∃ p:OpR,cs=p.cells∧d=opD p∧((-9223372036854775808≤p.kind∧p.kind≤9223372036854775807)∧(-9223372036854775808≤p.a∧p.a≤9223372036854775807)∧(-9223372036854775808≤p.b∧p.b≤9223372036854775807)∧(-9223372036854775808≤p.c∧p.c≤9223372036854775807)):=by
 obtain ⟨xs,m,_,hx,hl,hlen,hf⟩:=DataW.trod_struct Tryz.underlying28 h
 rw[cOp] at hl
 obtain ⟨c0,c1,c2,c3,c4,c5,rfl⟩:=six hl
 obtain ⟨x0,x1,x2,x3,x4,x5,rfl⟩:=six hlen
 have f0:DataW.trod enc Tryz.prog W 0 (fun _=>true) true m 3 ((([c0,c1,c2,c3,c4,c5]:List Value).drop 0).take (Tryz.prog.cellsOf 3))=some x0:=hf 0 _ rfl
 have f1:DataW.trod enc Tryz.prog W 0 (fun _=>true) true m 3 ((([c0,c1,c2,c3,c4,c5]:List Value).drop 1).take (Tryz.prog.cellsOf 3))=some x1:=hf 1 _ rfl
 have f2:DataW.trod enc Tryz.prog W 0 (fun _=>true) true m 3 ((([c0,c1,c2,c3,c4,c5]:List Value).drop 2).take (Tryz.prog.cellsOf 3))=some x2:=hf 2 _ rfl
 have f3:DataW.trod enc Tryz.prog W 0 (fun _=>true) true m 3 ((([c0,c1,c2,c3,c4,c5]:List Value).drop 3).take (Tryz.prog.cellsOf 3))=some x3:=hf 3 _ rfl
 have f4:DataW.trod enc Tryz.prog W 0 (fun _=>true) true m 9 ((([c0,c1,c2,c3,c4,c5]:List Value).drop 4).take (Tryz.prog.cellsOf 9))=some x4:=hf 4 _ rfl
 have f5:DataW.trod enc Tryz.prog W 0 (fun _=>true) true m 9 ((([c0,c1,c2,c3,c4,c5]:List Value).drop 5).take (Tryz.prog.cellsOf 9))=some x5:=hf 5 _ rfl
 simp only[cInt,cStr] at f0 f1 f2 f3 f4 f5
 obtain ⟨n0,e0,rfl,w0⟩:=DataW.trod_int Tryz.underlying3 f0
 obtain ⟨n1,e1,rfl,w1⟩:=DataW.trod_int Tryz.underlying3 f1
 obtain ⟨n2,e2,rfl,w2⟩:=DataW.trod_int Tryz.underlying3 f2
 obtain ⟨n3,e3,rfl,w3⟩:=DataW.trod_int Tryz.underlying3 f3
 obtain ⟨s4,e4,rfl,w4⟩:=DataW.trod_string Tryz.underlying9 f4
 obtain ⟨s5,e5,rfl,w5⟩:=DataW.trod_string Tryz.underlying9 f5
 simp at e0 e1 e2 e3 e4 e5 hx
 subst e0 e1 e2 e3 e4 e5
 exact ⟨⟨n0,n1,n2,n3,s4,s5⟩,rfl,hx.1,wf64 w0,wf64 w1,wf64 w2,wf64 w3⟩
theorem weightsAll_mem {H:Type} {P:Program} {e:TypeId}:∀ {l:List (DataW H)} {d:DataW H},d ∈ l→∀ n ∈ d.weights P e,n ∈ DataW.weightsAll P e l
 | x::l,d,h,n,hn=>by
  rcases List.mem_cons.1 h with rfl | h
  ·simp only[DataW.weightsAll,List.mem_append]
   exact .inl hn
  ·simp only[DataW.weightsAll,List.mem_append]
   exact .inr (weightsAll_mem h n hn)
theorem op_weights {H:Type} (p:OpR):(opD p:DataW H).weights Tryz.prog 28=[p.s.data.toList.length,p.t.data.toList.length]:=by
 unfold opD
 rw[DataW.weights,Tryz.underlying28]
 simp[DataW.weightsEach,DataW.weights]
theorem slice_weights {H:Type} (es sp:List (DataW H)):(DataW.slice es sp).weights Tryz.prog 22=(es.length+sp.length)*64::(DataW.weightsAll Tryz.prog 28 es++DataW.weightsAll Tryz.prog 28 sp):=by
 rw[DataW.weights,Tryz.underlying22]
 show (es.length+sp.length) * Tryz.prog.bytesOf 28::_=_
 rw[bOp]
theorem open_script {H:Type} {enc:TypeId × Value→H} {W:World} {ao:Option Addr} {n0 c0:Nat} {d:DataW H} {ps:List MemPlace} (h:DataW.Trod enc Tryz.prog W 0 (fun _=>true) true 22 (.slice ao n0 c0) d ps)
  (hz:∀ n ∈ d.weights Tryz.prog 22,n≤reachBytes):∃ l:List OpR,Script W (.slice ao n0 c0) l∧(∀ p ∈ l,p.ok)∧l.length≤1152921504606846976:=by
 haveI:Inhabited OpR:=⟨⟨0,0,0,0,⟨#[]⟩,⟨#[]⟩⟩⟩
 have hrb:reachBytes=140737488351232:=rfl
 obtain ⟨fuel,hf⟩:=h
 rcases open_slice Tryz.underlying22 hf with ⟨hcs,hx⟩ | ⟨a,len,cap,m,n,D,Pl,hcs,hb,hl,hm,hmm,hx,hel⟩
 ·simp[Value.cells] at hcs
  obtain ⟨rfl,rfl,rfl⟩:=hcs
  exact ⟨[],.inl ⟨rfl,_,_,rfl⟩,fun p hp=>by simp at hp,by simp⟩
 ·simp[Value.cells] at hcs
  obtain ⟨rfl,rfl,rfl⟩:=hcs
  simp only[if_true] at hmm
  subst hmm
  simp only[Prod.mk.injEq] at hx
  obtain ⟨hd,_⟩:=hx
  rw[hd,slice_weights] at hz
  have hlen:=hz _ (List.mem_cons_self ..)
  simp only[List.length_map,List.length_range] at hlen
  obtain ⟨Q,hQ⟩:=choose_lt (α:=OpR) (p:=fun i p=>W.cells? 0 (a.add (i*6)) 6=some p.cells∧D i=opD p∧((-9223372036854775808≤p.kind∧p.kind≤9223372036854775807)∧(-9223372036854775808≤p.a∧p.a≤9223372036854775807)∧(-9223372036854775808≤p.b∧p.b≤9223372036854775807)∧(-9223372036854775808≤p.c∧p.c≤9223372036854775807))) (fun i (hi:i<m)=>by
   obtain ⟨cs',h1,h2⟩:=hel i hi
   rw[cOp] at h1
   obtain ⟨p,rfl,h3,h4⟩:=open_op h2
   exact ⟨p,h1,h3,h4⟩)
  refine ⟨(List.range n0).map Q,?_,?_,by simp;omega⟩
  ·by_cases h0:n0=0
   ·subst h0
    exact .inl ⟨rfl,_,_,rfl⟩
   ·obtain ⟨b,off,spot⟩:=a
    have hspot:spot=none:=by
     obtain ⟨h1,_⟩:=hQ 0 (by omega)
     obtain ⟨_,_,h2⟩:=World.cells?_some h1
     have h3:=h2 0 (by omega)
     cases spot with
     | none=>rfl
     | some s=>simp[Addr.add,World.cell?,OpR.cells] at h3;split at h3 <;> simp at h3
    subst hspot
    refine .inr ⟨b,off,m,by simp,fun i p hp j u hu=>?_⟩
    obtain ⟨hi,rfl⟩:=List.getElem?_eq_some_iff.1 hp
    simp at hi
    have hj:j<6:=(List.getElem?_eq_some_iff.1 hu).1
    obtain ⟨h1,_⟩:=hQ i (by omega)
    obtain ⟨_,_,h2⟩:=World.cells?_some h1
    have h3:=h2 j hj
    rw[Addr.add_mid,Addr.add_mid] at h3
    rw[h3]
    simpa using hu
  ·intro p hp
   obtain ⟨i,hi,rfl⟩:=List.mem_map.1 hp
   have hi':i<n0:=by simpa using hi
   obtain ⟨_,h2,k1,k2,k3,k4⟩:=hQ i (by omega)
   have hw:∀ n ∈ (opD (Q i):DataW H).weights Tryz.prog 28,n≤reachBytes:=fun n hn=>hz n (List.mem_cons_of_mem _ (List.mem_append.2 (.inl (weightsAll_mem (d:=opD (Q i)) (List.mem_map.2 ⟨i,hi,h2⟩) n hn))))
   rw[op_weights] at hw
   have w1:=hw _ (List.mem_cons_self ..)
   have w2:=hw _ (List.mem_cons_of_mem _ (List.mem_cons_self ..))
   simp only[Array.length_toList] at w1 w2
   exact ⟨k1,k2,k3,k4,by show (Q i).s.data.size≤_;omega,by show (Q i).t.data.size≤_;omega⟩
end Go.Proofs.YtmjekklgefdolaaGreatDoor
namespace Go.Proofs.YtmjekklgefdolaaGreatDoor
open Go.RowKit
theorem flat_two {α:Type} (f:α→List Value) (hf:∀ x,(f x).length=2):∀ (l:List α) (i j:Nat) (x:α),l[i]? = some x→j<2→(l.flatMap f)[i*2+j]? = (f x)[j]?
 | [],i,j,x,h,_=>by simp at h
 | a::r,0,j,x,h,hj=>by
  simp at h;subst h
  rw[List.flatMap_cons,Nat.zero_mul,Nat.zero_add,List.getElem?_append_left (by rw[hf];exact hj)]
 | a::r,i+1,j,x,h,hj=>by
  rw[List.flatMap_cons,List.getElem?_append_right (by rw[hf];omega),hf,show (i+1)*2+j-2=i*2+j by omega]
  exact flat_two f hf r i j x (by simpa using h) hj
theorem RowT.cells2 {α:Type} {T:Tags} {w:World} {c:Nat × Nat} {e:TypeId} {v:Value} {l:List α} {f:α→List Value} (hf:∀ x,(f x).length=2) (h:RowT T w c e 2 v l.length (l.flatMap f)) (hn:0<l.length):
  ∃ g cap,v = .slice (some ⟨g,0,none⟩) l.length cap∧l.length≤cap∧cap≤maxLen∧T g=c∧g<w.heap.size∧(∀ i,i<l.length*2→w.frozen? ⟨g,i,none⟩=false)∧∀ i x,l[i]? = some x→∀ j u,(f x)[j]? = some u→w.cell? ⟨g,i*2+j,none⟩=some u:=by
 obtain ⟨g,cap,cur,rfl,_,hB,hc,hm,hcl,htk⟩:=h.1.open hn
 refine ⟨g,cap,rfl,hc,hm,h.2 g rfl,hB.lt,fun i hi=>hB.frozen (by omega),fun i x hx j u hu=>hB.cell (take_at htk ?_)⟩
 rw[flat_two f hf l i j x hx (by have:=(List.getElem?_eq_some_iff.1 hu).1;rw[hf] at this;exact this)]
 exact hu
theorem tag_ne {T:Tags} {a b:Nat} {c d:Nat × Nat} (ha:T a=c) (hb:T b=d) (h:c≠d):a≠b:=fun e=>h (by rw[←ha,←hb,e])
theorem Inv.drew {T:Tags} {base B M:Nat} {σ:Sig} {w:World} (h:Inv T base B M σ w):Inv T base B M σ w.drew:=h.same (Nat.le_refl _) h.bound.1 ⟨rfl,rfl,rfl,Nat.le_refl _,fun _ _=>rfl,fun _ _ _=>rfl⟩
theorem Done.drewN {base B M':Nat} {w w':World} (h:Done base B M' w w') (n:Nat):Done base B M' w (w'.drewN n):=by
 obtain ⟨T',σ',h1,h2⟩:=h
 exact ⟨T',σ',h1.drewN n,below_drewN h2 n⟩
theorem wpList_append_one (e t:TypeId) (z:Value) (bytes:Nat) (hinfo:(Tryz.prog.info? e).map (fun i=>(i.zero,i.size,i.bytes))=some (some z,1,bytes)) (hu:Tryz.prog.underlying t=some (.slice e)) (hz:z.cells.size=1) (hby:bytes≤64)
  {ops:Array Oper} {rest:List Oper} {o:Oper} {a:Act} {w:World} {Q:Exit→Act→World→Prop} (hgd:o.guard=none) (s x:Operand)
  (ho:o.op = .call { callee:=.builtin .append,args:=#[s,x],argTypes:=#[t,t] })
  (v:Value) (n:Nat) (xs:List Value) (hs:a.eval s=v) (hown:Row w 0 e 1 v n xs)
  (g:Nat) (y:Value) (hx:a.eval x = .slice (some ⟨g,0,none⟩) 1 1) (h1:y.oneCell'=true) (hn1:w.cell? ⟨g,0,none⟩=some y) (hn:n≤1099511627)
  (h:∀ v' w',Row w' 0 e 1 v' (n+1) (xs++[y])→w.grownBy w' v.ownBlock→(v'.ownBlock=v.ownBlock∨∃ g,v'.ownBlock=some g∧w.heap.size≤g)→wpList Tryz.prog ops Q rest (a.put o.dst v') w'):wpList Tryz.prog ops Q (o::rest) a w:=by
 obtain ⟨i0,hi,hz0,hz1,hz2⟩:=info_parts hinfo
 refine wpList_plain hgd fun _ hK=>?_
 refine wp_append_row s x t ho i0 z bytes hu hi hz0 hz1 hz2 hz (by decide) v n xs hs hown ⟨g,0,none⟩ 1 1 [y] hx rfl ?_ ?_ ?_ ?_ (Nat.zero_le _) ?_
 ·intro j u hj
  match j,hj with
  | 0,hj=>simp at hj;subst hj;rw[Addr.add_mid];exact hn1
 ·intro u hu'
  simp at hu'
  rcases hu' with rfl
  exact h1
 ·unfold maxLen;omega
 ·have:(n+1)*bytes≤(n+1)*64:=Nat.mul_le_mul_left _ hby
  omega
 ·intro v' w' h3 h4 h5
  exact hK _ _ (h v' w' h3 h4 h5)
theorem infoLs:(Tryz.prog.info? 41).map (fun i=>(i.zero,i.size,i.bytes))=some (some (.slice none 0 0),1,24):=by kernel_rfl
theorem Inv.scal {T:Tags} {base B M:Nat} {σ:Sig} {w:World} (h:Inv T base B M σ w) (f:Nat) (v:Value) (f' k' n':ByteArray) (a' b' c':I64)
  (hc:σ.cells.set f v=({ σ with file:=f',key:=k',nonce:=n',fr:=a',n:=b',ex:=c' }:Sig).cells) (h1:f'.size≤512*M+65536) (h2:k'.size≤512*M+65536) (h3:n'.size≤512*M+65536):
  Inv T base B M { σ with file:=f',key:=k',nonce:=n',fr:=a',n:=b',ex:=c' } (w.setCell ⟨B,f,none⟩ v)∧Below base w (w.setCell ⟨B,f,none⟩ v):=by
 have hs:Stays T T w (w.setCell ⟨B,f,none⟩ v) (fun c=>c=(1,0)):=by
  refine ⟨rfl,rfl,rfl,by simp[World.setCell],fun _ _=>rfl,fun j _ hn=>?_⟩
  exact Below.heap_setCell w ⟨B,f,none⟩ v j (fun e=>hn (by rw[e];exact h.hw.2))
 refine ⟨h.uscal (Nat.le_refl _) f' k' n' a' b' c' hs ⟨?_,h.hw.2⟩ h.bound ?_,hs.below h.bsz h.old (by simp)⟩
 ·rw[←hc];exact h.hw.1.setCell_same f v
 ·obtain ⟨z1,z2,z3,_,_,_⟩:=h.sizes
  exact ⟨z1,z2,z3,h1,h2,h3⟩
theorem Inv.clear {T:Tags} {base B M:Nat} {σ:Sig} {w:World} (h:Inv T base B M σ w):
  Inv T base B M { σ with vre:=.slice none 0 0,re:=[] } (w.setCell ⟨B,14,none⟩ (.slice none 0 0))∧Below base w (w.setCell ⟨B,14,none⟩ (.slice none 0 0)):=by
 have hs:Stays T T w (w.setCell ⟨B,14,none⟩ (.slice none 0 0)) (fun c=>c=(1,0)∨c=(2,14)):=by
  refine ⟨rfl,rfl,rfl,by simp[World.setCell],fun _ _=>rfl,fun j _ hn=>?_⟩
  exact Below.heap_setCell w ⟨B,14,none⟩ _ j (fun e=>hn (.inl (by rw[e];exact h.hw.2)))
 refine ⟨h.ure (Nat.le_refl _) (.slice none 0 0) [] hs ⟨h.hw.1.setCell_same 14 _,h.hw.2⟩ (RowT.nil _ _ _ _ _) ?_ ?_,hs.below h.bsz h.old (by simp)⟩
 ·have:=h.bound;simp;omega
 ·obtain ⟨z1,z2,z3,z4,z5,z6⟩:=h.sizes
  exact ⟨z1,by simp,z3,z4,z5,z6⟩
theorem Inv.addRe {T:Tags} {base B M M':Nat} {σ:Sig} {w w1:World} (h:Inv T base B M σ w) (hM:M<M') (hM2:M'≤1073741824) (s:ByteArray) (hsz:s.size≤512*M'+65536)
  (o:Obj) (v':Value) (hg:(w.alloc o).grownBy w1 σ.vre.ownBlock) (hr:Row w1 0 9 1 v' (σ.re.length+1) (strV (σ.re++[s]))) (hat:v'.ownBlock=σ.vre.ownBlock∨∃ g,v'.ownBlock=some g∧(w.alloc o).heap.size≤g):
  Done base B M' w (w1.setCell ⟨B,14,none⟩ v'):=by
 obtain ⟨q1,q2,q3⟩:=append_field (f:=14) h.hw h.rre (by decide) hg hr hat
 refine ⟨fresh T w (2,14),{ σ with vre:=v',re:=σ.re++[s] },h.ure (Nat.le_of_lt hM) v' (σ.re++[s]) q1 q2 (by simpa using q3) ?_ ?_,q1.below h.bsz h.old (by simp)⟩
 ·have:=h.bound;simp;omega
 ·obtain ⟨z1,z2,z3,z4,z5,z6⟩:=h.sizes
  refine ⟨fun x hx=>by have:=z1 x hx;omega,fun x hx=>?_,fun p hp=>⟨by have:=(z3 p hp).1;omega,fun x hx=>by have:=(z3 p hp).2 x hx;omega⟩,by show σ.file.size≤_;omega,by show σ.key.size≤_;omega,by show σ.nonce.size≤_;omega⟩
  rcases List.mem_append.1 hx with hx | hx
  ·have:=z2 x hx;omega
  ·rw[List.mem_singleton.1 hx];exact hsz
theorem Inv.addLs {T:Tags} {base B M M':Nat} {σ:Sig} {w w1 w2:World} (h:Inv T base B M σ w) (hM:M<M') (hM2:M'≤1073741824) (x:ListR) (hx:Lst T w (31,σ.ls.length) x.v x.l) (hx2:Lst T w (32,σ.ls.length) x.v2 x.l) (hl:x.l.length≤M'∧∀ y ∈ x.l,y.size≤512*M'+65536)
  (o:Obj) (v':Value) (hg:(w.alloc o).grownBy w1 σ.vls.ownBlock) (hr:Row w1 0 41 1 v' (σ.ls.length+1) ((σ.ls.map (·.v))++[x.v])) (hat:v'.ownBlock=σ.vls.ownBlock∨∃ g,v'.ownBlock=some g∧(w.alloc o).heap.size≤g)
  (o2:Obj) (u':Value) (hg2:((w1.setCell ⟨B,15,none⟩ v').alloc o2).grownBy w2 σ.vlw.ownBlock) (hr2:Row w2 0 41 1 u' (σ.ls.length+1) ((σ.ls.map (·.v2))++[x.v2])) (hat2:u'.ownBlock=σ.vlw.ownBlock∨∃ g,u'.ownBlock=some g∧((w1.setCell ⟨B,15,none⟩ v').alloc o2).heap.size≤g):
  Done base B M' w (w2.setCell ⟨B,16,none⟩ u'):=by
 obtain ⟨q1,q2,q3⟩:=append_field (f:=15) h.hw h.rls (by decide) hg hr hat
 have hlw:=h.rlw.stays q1 (by simp)
 obtain ⟨r1,r2,r3⟩:=append_field (f:=16) q2 hlw (by decide) hg2 hr2 hat2
 have q1':=q1.mono (S':=fun c=>c=(1,0)∨c=(2,15)∨c=(2,16)) (by intro c hc;rcases hc with h | h <;> simp[h])
 have r1':=r1.mono (S':=fun c=>c=(1,0)∨c=(2,15)∨c=(2,16)) (by intro c hc;rcases hc with h | h <;> simp[h])
 have hs:=q1'.trans r1'
 refine ⟨_,{ σ with vls:=v',vlw:=u',ls:=σ.ls++[x] },h.uls (Nat.le_of_lt hM) v' u' (σ.ls++[x]) (hs.mono (by intro c hc;rcases hc with h | h | h <;> simp[h])) r2 ?_ ?_ ?_ ?_ ?_,hs.below h.bsz h.old (by simp)⟩
 ·have q4:=q3.stays r1 (by simp)
  simpa using q4
 ·simpa using r3
 ·intro i p hp
  by_cases hi:i<σ.ls.length
  ·rw[List.getElem?_append_left hi] at hp
   exact ⟨(h.ls i p hp).1.stays hs (by simp),(h.ls i p hp).2.stays hs (by simp)⟩
  ·have hi2:i=σ.ls.length:=by
    have:=(List.getElem?_eq_some_iff.1 hp).1
    simp at this;omega
   subst hi2
   simp at hp
   subst hp
   exact ⟨hx.stays hs (by simp),hx2.stays hs (by simp)⟩
 ·have:=h.bound;simp;omega
 ·obtain ⟨z1,z2,z3,z4,z5,z6⟩:=h.sizes
  refine ⟨fun x hx=>by have:=z1 x hx;omega,fun x hx=>by have:=z2 x hx;omega,fun p hp=>?_,by show σ.file.size≤_;omega,by show σ.key.size≤_;omega,by show σ.nonce.size≤_;omega⟩
  rcases List.mem_append.1 hp with hp | hp
  ·exact ⟨by have:=(z3 p hp).1;omega,fun x hx=>by have:=(z3 p hp).2 x hx;omega⟩
  ·rw[List.mem_singleton.1 hp];exact hl
theorem set_at {α:Type} {l:List α} {k:Nat} {x:α} (h:l[k]? = some x):l.set k x=l:=by
 obtain ⟨hk,rfl⟩:=List.getElem?_eq_some_iff.1 h
 exact List.set_getElem_self hk
theorem Inv.setLs {T:Tags} {base B M:Nat} {σ:Sig} {w:World} (h:Inv T base B M σ w) {k:Nat} {p:ListR} (hp:σ.ls[k]? = some p) (i:Nat) (s:ByteArray) (hsz:s.size≤512*M+65536) {g1 g2:Nat} {n1 n2:Nat}
  (h1:p.v = .slice (some ⟨g1,0,none⟩) n1 n1) (h2:p.v2 = .slice (some ⟨g2,0,none⟩) n2 n2):
  Done base B M w ((w.setCell ⟨g1,i,none⟩ (.string s)).setCell ⟨g2,i,none⟩ (.string s)):=by
 have hkl:=(List.getElem?_eq_some_iff.1 hp).1
 obtain ⟨l1,l2⟩:=h.ls k p hp
 rw[h1] at l1
 rw[h2] at l2
 have m1:n1=p.l.length∧At T w (31,k) g1 9 (strV p.l):=by
  rcases l1 with ⟨hn,_⟩ | ⟨g,hv,ha⟩
  ·cases hn
  ·injection hv with e1 e2 e3
   injection e1 with e1
   injection e1 with e1 _ _
   subst e1
   exact ⟨e2,ha⟩
 have m2:n2=p.l.length∧At T w (32,k) g2 9 (strV p.l):=by
  rcases l2 with ⟨hn,_⟩ | ⟨g,hv,ha⟩
  ·cases hn
  ·injection hv with e1 e2 e3
   injection e1 with e1
   injection e1 with e1 _ _
   subst e1
   exact ⟨e2,ha⟩
 obtain ⟨e1,a1⟩:=m1
 obtain ⟨e2,a2⟩:=m2
 have hne:g1≠g2:=tag_ne a1.2 a2.2 (by simp)
 have hset:strV (p.l.set i s)=(strV p.l).set i (.string s):=by simp[strV,List.map_set]
 have hs:Stays T T w ((w.setCell ⟨g1,i,none⟩ (.string s)).setCell ⟨g2,i,none⟩ (.string s)) (fun c=>c=(31,k)∨c=(32,k)):=by
  refine ⟨rfl,rfl,rfl,by simp[World.setCell],fun _ _=>rfl,fun j _ hn=>?_⟩
  rw[Below.heap_setCell _ ⟨g2,i,none⟩ _ j (fun e=>hn (.inr (by rw[e];exact a2.2))),Below.heap_setCell w ⟨g1,i,none⟩ _ j (fun e=>hn (.inl (by rw[e];exact a1.2)))]
 refine ⟨T,{ σ with vls:=σ.vls,vlw:=σ.vlw,ls:=σ.ls.set k ⟨p.v,p.v2,p.l.set i s⟩ },h.uls (Nat.le_refl _) σ.vls σ.vlw (σ.ls.set k ⟨p.v,p.v2,p.l.set i s⟩) (hs.mono (by intro c hc;rcases hc with h | h <;> simp[h])) (h.hw.stays hs (by simp)) ?_ ?_ ?_ ?_ ?_,hs.below h.bsz h.old (by simp)⟩
 ·have e:(σ.ls.set k ⟨p.v,p.v2,p.l.set i s⟩).map (·.v)=σ.ls.map (·.v):=by
   rw[List.map_set];exact set_at (by simp[hp])
  rw[e,List.length_set]
  exact h.rls.stays hs (by simp)
 ·have e:(σ.ls.set k ⟨p.v,p.v2,p.l.set i s⟩).map (·.v2)=σ.ls.map (·.v2):=by
   rw[List.map_set];exact set_at (by simp[hp])
  rw[e,List.length_set]
  exact h.rlw.stays hs (by simp)
 ·intro j q hq
  by_cases hjk:j=k
  ·subst hjk
   rw[List.getElem?_set_self hkl] at hq
   obtain rfl:=Option.some.inj hq
   refine ⟨.inr ⟨g1,?_,?_,a1.2⟩,.inr ⟨g2,?_,?_,a2.2⟩⟩
   ·show p.v=_;rw[h1,e1];simp
   ·rw[hset];exact (a1.1.setCell_same i _).setCell_other _ _ hne
   ·show p.v2=_;rw[h2,e2];simp
   ·rw[hset];exact (a2.1.setCell_other _ _ (fun e=>hne e.symm)).setCell_same i _
  ·rw[List.getElem?_set_ne (fun e=>hjk e.symm)] at hq
   exact ⟨(h.ls j q hq).1.stays hs (by simp[hjk]),(h.ls j q hq).2.stays hs (by simp[hjk])⟩
 ·have:=h.bound;simp;omega
 ·obtain ⟨z1,z2,z3,z4,z5,z6⟩:=h.sizes
  refine ⟨z1,z2,fun q hq=>?_,z4,z5,z6⟩
  rcases List.mem_or_eq_of_mem_set hq with hq | rfl
  ·exact z3 q hq
  ·have hz:=z3 p (List.mem_of_getElem? hp)
   refine ⟨by simpa using hz.1,fun y hy=>?_⟩
   rcases List.mem_or_eq_of_mem_set hy with hy | rfl
   ·exact hz.2 y hy
   ·exact hsz
theorem infoSp:(Tryz.prog.info? 91).map (fun i=>(i.zero,i.size,i.bytes))=some (some (.agg #[.pointer none,.pointer none]),2,16):=by kernel_rfl
theorem infoSi:(Tryz.prog.info? 96).map (fun i=>(i.zero,i.size,i.bytes))=some (some (.agg #[.pointer none,.pointer none]),2,16):=by kernel_rfl
theorem infoSo:(Tryz.prog.info? 100).map (fun i=>(i.zero,i.size,i.bytes))=some (some (.agg #[.pointer none,.pointer none]),2,16):=by kernel_rfl
def fresh2 (T:Tags) (w:World) (c d:Nat × Nat):Tags:=fun g=>if g<w.heap.size then T g else if g=w.heap.size then c else d
theorem fresh2_old (T:Tags) (w:World) (c d:Nat × Nat) (g:Nat) (h:g<w.heap.size):fresh2 T w c d g=T g:=if_pos h
theorem fresh2_first (T:Tags) (w:World) (c d:Nat × Nat):fresh2 T w c d w.heap.size=c:=by unfold fresh2;rw[if_neg (by omega),if_pos rfl]
theorem fresh2_other (T:Tags) (w:World) (c d:Nat × Nat) (g:Nat) (h:w.heap.size<g):fresh2 T w c d g=d:=by unfold fresh2;rw[if_neg (by omega),if_neg (by omega)]
theorem Stays.of_below2 {T:Tags} {w w':World} {S:Nat × Nat→Prop} (c d:Nat × Nat) (h:Below w.heap.size w w'):Stays T (fresh2 T w c d) w w' S:=
 ⟨h.os,h.tape,h.output,h.size,fun g hg=>fresh2_old T w c d g hg,fun g hg _=>h.block g hg⟩
theorem Inv.addSp {T:Tags} {base B M M':Nat} {σ:Sig} {w w1:World} (h:Inv T base B M σ w) (hM:M<M') (hM2:M'≤1073741824) (x:SpringR) (hxk:SpK M' x) (hx:At T w (20,σ.sp.length) x.bx 171 x.cells∧At T w (21,σ.sp.length) x.bm 171 x.cells)
  (o:Obj) (v':Value) (hg:(w.alloc o).grownBy w1 σ.vsp.ownBlock) (hr:Row w1 0 91 2 v' (σ.sp.length+1) ((σ.sp.flatMap fun p=>ptrs p.bx p.bm)++ptrs x.bx x.bm)) (hat:v'.ownBlock=σ.vsp.ownBlock∨∃ g,v'.ownBlock=some g∧(w.alloc o).heap.size≤g):
  Done base B M' w (w1.setCell ⟨B,0,none⟩ v'):=by
 obtain ⟨q1,q2,q3⟩:=append_field (f:=0) h.hw h.rsp (by decide) hg hr hat
 refine ⟨fresh T w (2,0),{ σ with vsp:=v',sp:=σ.sp++[x] },h.usp (Nat.le_of_lt hM) v' (σ.sp++[x]) q1 q2 ?_ ?_ ?_ ?_ ?_,q1.below h.bsz h.old (by simp)⟩
 ·have e:(σ.sp++[x]).flatMap (fun p:SpringR=>ptrs p.bx p.bm)=(σ.sp.flatMap fun p=>ptrs p.bx p.bm)++ptrs x.bx x.bm:=by simp[List.flatMap_append]
  rw[e]
  simpa using q3
 ·intro i p hp
  by_cases hi:i<σ.sp.length
  ·rw[List.getElem?_append_left hi] at hp
   have a:=h.sp i p hp
   exact ⟨a.1.stays q1 (by simp),a.2.stays q1 (by simp)⟩
  ·have hi2:i=σ.sp.length:=by
    have:=(List.getElem?_eq_some_iff.1 hp).1
    simp at this;omega
   subst hi2
   simp at hp
   subst hp
   exact ⟨hx.1.stays q1 (by simp),hx.2.stays q1 (by simp)⟩
 ·intro i p hp
  by_cases hi:i<σ.sp.length
  ·rw[List.getElem?_append_left hi] at hp
   exact (h.spK i p hp).more (Nat.le_of_lt hM)
  ·have hi2:i=σ.sp.length:=by
    have:=(List.getElem?_eq_some_iff.1 hp).1
    simp at this;omega
   subst hi2
   simp at hp
   subst hp
   exact hxk
 ·have:=h.bound;simp;omega
 ·obtain ⟨z1,z2,z3,z4,z5,z6⟩:=h.sizes
  exact ⟨fun x hx=>by have:=z1 x hx;omega,fun x hx=>by have:=z2 x hx;omega,fun p hp=>⟨by have:=(z3 p hp).1;omega,fun x hx=>by have:=(z3 p hp).2 x hx;omega⟩,by show σ.file.size≤_;omega,by show σ.key.size≤_;omega,by show σ.nonce.size≤_;omega⟩
theorem Inv.addSi {T:Tags} {base B M M':Nat} {σ:Sig} {w w1:World} (h:Inv T base B M σ w) (hM:M<M') (hM2:M'≤1073741824) (x:SinkR) (hxk:SiK M' x) (hx:(At T w (22,σ.si.length) x.bx 173 (x.cells x.gx)∧At T w (23,σ.si.length) x.gx 3 (intV x.plan))∧At T w (24,σ.si.length) x.bm 173 (x.cells x.gm)∧At T w (25,σ.si.length) x.gm 3 (intV x.plan))
  (o:Obj) (v':Value) (hg:(w.alloc o).grownBy w1 σ.vsi.ownBlock) (hr:Row w1 0 96 2 v' (σ.si.length+1) ((σ.si.flatMap fun p=>ptrs p.bx p.bm)++ptrs x.bx x.bm)) (hat:v'.ownBlock=σ.vsi.ownBlock∨∃ g,v'.ownBlock=some g∧(w.alloc o).heap.size≤g):
  Done base B M' w (w1.setCell ⟨B,1,none⟩ v'):=by
 obtain ⟨q1,q2,q3⟩:=append_field (f:=1) h.hw h.rsi (by decide) hg hr hat
 refine ⟨fresh T w (2,1),{ σ with vsi:=v',si:=σ.si++[x] },h.usi (Nat.le_of_lt hM) v' (σ.si++[x]) (fun i s hs=>⟨s,by rw[List.getElem?_append_left (List.getElem?_eq_some_iff.1 hs).1];exact hs,rfl,rfl⟩) q1 q2 ?_ ?_ ?_ ?_ ?_,q1.below h.bsz h.old (by simp)⟩
 ·have e:(σ.si++[x]).flatMap (fun p:SinkR=>ptrs p.bx p.bm)=(σ.si.flatMap fun p=>ptrs p.bx p.bm)++ptrs x.bx x.bm:=by simp[List.flatMap_append]
  rw[e]
  simpa using q3
 ·intro i p hp
  by_cases hi:i<σ.si.length
  ·rw[List.getElem?_append_left hi] at hp
   have a:=h.si i p hp
   exact ⟨⟨a.1.1.stays q1 (by simp),a.1.2.stays q1 (by simp)⟩,a.2.1.stays q1 (by simp),a.2.2.stays q1 (by simp)⟩
  ·have hi2:i=σ.si.length:=by
    have:=(List.getElem?_eq_some_iff.1 hp).1
    simp at this;omega
   subst hi2
   simp at hp
   subst hp
   exact ⟨⟨hx.1.1.stays q1 (by simp),hx.1.2.stays q1 (by simp)⟩,hx.2.1.stays q1 (by simp),hx.2.2.stays q1 (by simp)⟩
 ·intro i p hp
  by_cases hi:i<σ.si.length
  ·rw[List.getElem?_append_left hi] at hp
   exact (h.siK i p hp).more (Nat.le_of_lt hM)
  ·have hi2:i=σ.si.length:=by
    have:=(List.getElem?_eq_some_iff.1 hp).1
    simp at this;omega
   subst hi2
   simp at hp
   subst hp
   exact hxk
 ·have:=h.bound;simp;omega
 ·obtain ⟨z1,z2,z3,z4,z5,z6⟩:=h.sizes
  exact ⟨fun x hx=>by have:=z1 x hx;omega,fun x hx=>by have:=z2 x hx;omega,fun p hp=>⟨by have:=(z3 p hp).1;omega,fun x hx=>by have:=(z3 p hp).2 x hx;omega⟩,by show σ.file.size≤_;omega,by show σ.key.size≤_;omega,by show σ.nonce.size≤_;omega⟩
theorem Inv.addSo {T:Tags} {base B M M':Nat} {σ:Sig} {w w1:World} (h:Inv T base B M σ w) (hM:M<M') (hM2:M'≤1073741824) (x:SourceR) (hxk:SoK M' x) (hx:(At T w (26,σ.so.length) x.bx 175 (x.cells x.gx)∧At T w (27,σ.so.length) x.gx 3 (intV x.plan))∧At T w (28,σ.so.length) x.bm 175 (x.cells x.gm)∧At T w (29,σ.so.length) x.gm 3 (intV x.plan))
  (o:Obj) (v':Value) (hg:(w.alloc o).grownBy w1 σ.vso.ownBlock) (hr:Row w1 0 100 2 v' (σ.so.length+1) ((σ.so.flatMap fun p=>ptrs p.bx p.bm)++ptrs x.bx x.bm)) (hat:v'.ownBlock=σ.vso.ownBlock∨∃ g,v'.ownBlock=some g∧(w.alloc o).heap.size≤g):
  Done base B M' w (w1.setCell ⟨B,2,none⟩ v'):=by
 obtain ⟨q1,q2,q3⟩:=append_field (f:=2) h.hw h.rso (by decide) hg hr hat
 refine ⟨fresh T w (2,2),{ σ with vso:=v',so:=σ.so++[x] },h.uso (Nat.le_of_lt hM) v' (σ.so++[x]) (fun i s hs=>⟨s,by rw[List.getElem?_append_left (List.getElem?_eq_some_iff.1 hs).1];exact hs,rfl,rfl⟩) q1 q2 ?_ ?_ ?_ ?_ ?_,q1.below h.bsz h.old (by simp)⟩
 ·have e:(σ.so++[x]).flatMap (fun p:SourceR=>ptrs p.bx p.bm)=(σ.so.flatMap fun p=>ptrs p.bx p.bm)++ptrs x.bx x.bm:=by simp[List.flatMap_append]
  rw[e]
  simpa using q3
 ·intro i p hp
  by_cases hi:i<σ.so.length
  ·rw[List.getElem?_append_left hi] at hp
   have a:=h.so i p hp
   exact ⟨⟨a.1.1.stays q1 (by simp),a.1.2.stays q1 (by simp)⟩,a.2.1.stays q1 (by simp),a.2.2.stays q1 (by simp)⟩
  ·have hi2:i=σ.so.length:=by
    have:=(List.getElem?_eq_some_iff.1 hp).1
    simp at this;omega
   subst hi2
   simp at hp
   subst hp
   exact ⟨⟨hx.1.1.stays q1 (by simp),hx.1.2.stays q1 (by simp)⟩,hx.2.1.stays q1 (by simp),hx.2.2.stays q1 (by simp)⟩
 ·intro i p hp
  by_cases hi:i<σ.so.length
  ·rw[List.getElem?_append_left hi] at hp
   exact (h.soK i p hp).more (Nat.le_of_lt hM)
  ·have hi2:i=σ.so.length:=by
    have:=(List.getElem?_eq_some_iff.1 hp).1
    simp at this;omega
   subst hi2
   simp at hp
   subst hp
   exact hxk
 ·have:=h.bound;simp;omega
 ·obtain ⟨z1,z2,z3,z4,z5,z6⟩:=h.sizes
  exact ⟨fun x hx=>by have:=z1 x hx;omega,fun x hx=>by have:=z2 x hx;omega,fun p hp=>⟨by have:=(z3 p hp).1;omega,fun x hx=>by have:=(z3 p hp).2 x hx;omega⟩,by show σ.file.size≤_;omega,by show σ.key.size≤_;omega,by show σ.nonce.size≤_;omega⟩
set_option maxRecDepth 100000 in
set_option maxHeartbeats 600000 in
theorem brought_1 {T:Tags} {base B M M':Nat} {σ:Sig} {w:World} (h:Inv T base B M σ w) (o:OpR) (hk:o.kind=1) (hs:o.s.size≤M) (hM:M<M') (hM2:M'≤1073741824):
  Calls Tryz.prog 32 #[.pointer (some ⟨B,0,none⟩),opV o] w fun e w'=>e = .returned (.bool true)∧Done base B M' w w':=by
 have z1:(o.kind==1)=true:=beq_iff_eq.2 hk
 have hb0:Below w.heap.size w (w.alloc (.cells #[.int .i64 o.kind,.int .i64 o.a,.int .i64 o.b,.int .i64 o.c,.string o.s,.string o.t] 28)):=(Below.refl _ _).alloc (Nat.le_refl _) _
 have hA:=h.below hb0
 have hbase:=h.bsz
 have hsl:w.heap.size<(w.alloc (.cells #[.int .i64 o.kind,.int .i64 o.a,.int .i64 o.b,.int .i64 o.c,.string o.s,.string o.t] 28)).heap.size:=by simp
 have e0:(w.alloc (.cells #[.int .i64 o.kind,.int .i64 o.a,.int .i64 o.b,.int .i64 o.c,.string o.s,.string o.t] 28)).cell? ⟨w.heap.size,0,none⟩=some (.int .i64 o.kind):=World.cell?_alloc_at _ _ _ _ rfl
 have e4:(w.alloc (.cells #[.int .i64 o.kind,.int .i64 o.a,.int .i64 o.b,.int .i64 o.c,.string o.s,.string o.t] 28)).cell? ⟨w.heap.size,4,none⟩=some (.string o.s):=World.cell?_alloc_at _ _ _ _ rfl
 have HA:=hide hA
 have HB:=hide (hb0.mono hbase)
 have hlen:=hA.bound
 unfold opV
 clear hA hb0 h hk hbase
 go_enter Tryz.func32,Tryz.ntmps32
 go_wp2_with fail
 refine (springOf_any o.s _).mono ?_
 rintro e w2 ⟨rfl,hB2,hb2⟩
 have hI2:=HA.out.same (Nat.le_refl _) HA.out.bound.1 (Stays.of_below (20,σ.sp.length) hb2)
 have t2:=fresh_new (fresh T w (9,9)) (w.alloc (.cells #[.int .i64 o.kind,.int .i64 o.a,.int .i64 o.b,.int .i64 o.c,.string o.s,.string o.t] 28)) (20,σ.sp.length) _ (Nat.le_refl _)
 have HB2:=hide (HB.out.trans (hb2.mono HA.out.bsz))
 have e42:w2.cell? ⟨w.heap.size,4,none⟩=some (.string o.s):=(hb2.cell hsl).trans e4
 generalize fresh (fresh T w (9,9)) (w.alloc (.cells #[.int .i64 o.kind,.int .i64 o.a,.int .i64 o.b,.int .i64 o.c,.string o.s,.string o.t] 28)) (20,σ.sp.length)=T2 at *
 generalize (w.alloc (.cells #[.int .i64 o.kind,.int .i64 o.a,.int .i64 o.b,.int .i64 o.c,.string o.s,.string o.t] 28)).heap.size=b2 at *
 have HI2:=hide hI2
 clear hI2 hb2 HA HB e0 e4 hsl
 go_wp2_with fail
 refine (springOf_any o.s _).mono ?_
 rintro e w3 ⟨rfl,hB3,hb3⟩
 have hI3:=HI2.out.same (Nat.le_refl _) HI2.out.bound.1 (Stays.of_below (21,σ.sp.length) hb3)
 have t3:=fresh_new T2 w2 (21,σ.sp.length) _ (Nat.le_refl _)
 have t23:=(fresh_old T2 w2 (21,σ.sp.length) b2 hB2.lt).trans t2
 have hB23:=hB2.below hb3 hB2.lt
 have HB3:=hide (HB2.out.trans (hb3.mono HI2.out.bsz))
 generalize fresh T2 w2 (21,σ.sp.length)=T3 at *
 generalize w2.heap.size=b3 at *
 have HX:=hide (show At T3 w3 (20,σ.sp.length) b2 171 (SpringR.cells ⟨b2,b3,o.s,0⟩)∧At T3 w3 (21,σ.sp.length) b3 171 (SpringR.cells ⟨b2,b3,o.s,0⟩) from ⟨⟨hB23,t23⟩,⟨hB3,t3⟩⟩)
 have HI4:=hide hI3
 clear hI3 hb3 HI2 HB2 hB2 hB3 t2 t3 t23 hB23 e42
 have c0:=HI4.out.hw.1.cell (i:=0) rfl
 have key:=fun (w1:World) (o:Obj) (hg:(w3.alloc o).grownBy w1 σ.vsp.ownBlock)=>(HI4.out.hw.1.alloc o).grown hg (fun e=>absurd (HI4.out.rsp.2 B e.symm) (by rw[HI4.out.hw.2];decide))
 have HK:=hide key
 clear key
 go_wp2_with (at_builtin;refine wpList_append_two 91 31 _ 16 infoSp Tryz.underlying31 rfl (by decide) rfl (.tmp 32) (.tmp 36) rfl _ σ.sp.length _ rfl (HI4.out.rsp.1.alloc _) _ (.pointer (some ⟨b2,0,none⟩)) (.pointer (some ⟨b3,0,none⟩)) rfl rfl rfl (World.cell?_alloc_at _ _ _ _ rfl) (World.cell?_alloc_at _ _ _ _ rfl) ?_ ?_;omega;intro v1 w5 hr1 hg1 hat1;obtain ⟨g9,cap9,cur9,rfl,_⟩:=hr1.open (Nat.succ_pos _);have bb:=HK.out w5 _ hg1;have d0:=bb.cell (i:=0) rfl;have f5:=bb.frozen)
 go_ret
 obtain ⟨T',σ',i1,i2⟩:=HI4.out.addSp hM hM2 ⟨b2,b3,o.s,0⟩ ⟨Int.le_refl _,Int.natCast_nonneg _,by show o.s.size≤_;omega⟩ HX.out _ _ hg1 hr1 hat1
 exact ⟨rfl,T',σ',i1,HB3.out.trans i2⟩
set_option maxRecDepth 100000 in
set_option maxHeartbeats 600000 in
theorem brought_2 {T:Tags} {base B M M':Nat} {σ:Sig} {w:World} (h:Inv T base B M σ w) (o:OpR) (hk:o.kind=2) (hs:o.s.size≤M) (hM:M<M') (hM2:M'≤1073741824):
  Calls Tryz.prog 32 #[.pointer (some ⟨B,0,none⟩),opV o] w fun e w'=>e = .returned (.bool true)∧Done base B M' w w':=by
 have z1:(o.kind==1)=false:=beq_eq_false_iff_ne.2 (by rw[hk];decide)
 have z2:(o.kind==2)=true:=beq_iff_eq.2 hk
 have hb0:Below w.heap.size w (w.alloc (.cells #[.int .i64 o.kind,.int .i64 o.a,.int .i64 o.b,.int .i64 o.c,.string o.s,.string o.t] 28)):=(Below.refl _ _).alloc (Nat.le_refl _) _
 have hA:=h.below hb0
 have hbase:=h.bsz
 have hsl:w.heap.size<(w.alloc (.cells #[.int .i64 o.kind,.int .i64 o.a,.int .i64 o.b,.int .i64 o.c,.string o.s,.string o.t] 28)).heap.size:=by simp
 have e0:(w.alloc (.cells #[.int .i64 o.kind,.int .i64 o.a,.int .i64 o.b,.int .i64 o.c,.string o.s,.string o.t] 28)).cell? ⟨w.heap.size,0,none⟩=some (.int .i64 o.kind):=World.cell?_alloc_at _ _ _ _ rfl
 have e4:(w.alloc (.cells #[.int .i64 o.kind,.int .i64 o.a,.int .i64 o.b,.int .i64 o.c,.string o.s,.string o.t] 28)).cell? ⟨w.heap.size,4,none⟩=some (.string o.s):=World.cell?_alloc_at _ _ _ _ rfl
 have HA:=hide hA
 have HB:=hide (hb0.mono hbase)
 have hlen:=hA.bound
 unfold opV
 clear hA hb0 h hk hbase
 go_enter Tryz.func32,Tryz.ntmps32
 go_wp2_with fail
 refine (plan_any o.s _ (by omega)).mono ?_
 rintro e w2 ⟨pl,hpl,rfl,hBp,hb2⟩
 rw[←hpl]
 have hplen:pl.length≤M:=by omega
 clear hpl
 have HI2:=hide (HA.out.below hb2)
 have HB2:=hide (HB.out.trans (hb2.mono HA.out.bsz))
 have tp:=fresh_new (fresh T w (9,9)) (w.alloc (.cells #[.int .i64 o.kind,.int .i64 o.a,.int .i64 o.b,.int .i64 o.c,.string o.s,.string o.t] 28)) (9,9) _ (Nat.le_refl _)
 generalize fresh (fresh T w (9,9)) (w.alloc (.cells #[.int .i64 o.kind,.int .i64 o.a,.int .i64 o.b,.int .i64 o.c,.string o.s,.string o.t] 28)) (9,9)=T2 at *
 generalize (w.alloc (.cells #[.int .i64 o.kind,.int .i64 o.a,.int .i64 o.b,.int .i64 o.c,.string o.s,.string o.t] 28)).heap.size=w_p at *
 clear hb2 HA HB e0 e4 hsl
 go_wp2_with fail
 refine (sinkOf_any w_p _ pl _ hBp (by omega)).mono ?_
 rintro e w3 ⟨b2,rfl,hgt2,hG2,hB2,hb3⟩
 have hI3:=HI2.out.same (Nat.le_refl _) HI2.out.bound.1 (Stays.of_below2 (23,σ.si.length) (22,σ.si.length) hb3)
 have t2:=fresh2_first T2 w2 (23,σ.si.length) (22,σ.si.length)
 have t2':=fresh2_other T2 w2 (23,σ.si.length) (22,σ.si.length) b2 hgt2
 have hBp3:=hBp.below hb3 hBp.lt
 have HB3:=hide (HB2.out.trans (hb3.mono HI2.out.bsz))
 generalize fresh2 T2 w2 (23,σ.si.length) (22,σ.si.length)=T3 at *
 generalize w2.heap.size=g2 at *
 have HI3:=hide hI3
 clear hI3 hb3 HI2 HB2 tp
 go_wp2_with fail
 refine (sinkOf_any w_p _ pl _ hBp3 (by omega)).mono ?_
 rintro e w4 ⟨b3,rfl,hgt3,hG3,hB3,hb4⟩
 have hI4:=HI3.out.same (Nat.le_refl _) HI3.out.bound.1 (Stays.of_below2 (25,σ.si.length) (24,σ.si.length) hb4)
 have t3:=fresh2_first T3 w3 (25,σ.si.length) (24,σ.si.length)
 have t3':=fresh2_other T3 w3 (25,σ.si.length) (24,σ.si.length) b3 hgt3
 have t24:=(fresh2_old T3 w3 (25,σ.si.length) (24,σ.si.length) g2 hG2.lt).trans t2
 have t24':=(fresh2_old T3 w3 (25,σ.si.length) (24,σ.si.length) b2 hB2.lt).trans t2'
 have hG24:=hG2.below hb4 hG2.lt
 have hB24:=hB2.below hb4 hB2.lt
 have HB4:=hide (HB3.out.trans (hb4.mono HI3.out.bsz))
 generalize fresh2 T3 w3 (25,σ.si.length) (24,σ.si.length)=T4 at *
 generalize w3.heap.size=g3 at *
 have HX:=hide (show (At T4 w4 (22,σ.si.length) b2 173 (SinkR.cells ⟨b2,g2,b3,g3,⟨#[]⟩,pl,0⟩ g2)∧At T4 w4 (23,σ.si.length) g2 3 (intV pl))∧At T4 w4 (24,σ.si.length) b3 173 (SinkR.cells ⟨b2,g2,b3,g3,⟨#[]⟩,pl,0⟩ g3)∧At T4 w4 (25,σ.si.length) g3 3 (intV pl) from ⟨⟨⟨hB24,t24'⟩,⟨hG24,t24⟩⟩,⟨hB3,t3'⟩,⟨hG3,t3⟩⟩)
 have HI4:=hide hI4
 clear hI4 hb4 HI3 HB3 hG2 hB2 hG3 hB3 t2 t2' t3 t3' t24 t24' hG24 hB24 hgt2 hgt3 hBp hBp3
 have c1:=HI4.out.hw.1.cell (i:=1) rfl
 have key:=fun (w1:World) (o:Obj) (hg:(w4.alloc o).grownBy w1 σ.vsi.ownBlock)=>(HI4.out.hw.1.alloc o).grown hg (fun e=>absurd (HI4.out.rsi.2 B e.symm) (by rw[HI4.out.hw.2];decide))
 have HK:=hide key
 clear key
 go_wp2_with (at_builtin;refine wpList_append_two 96 32 _ 16 infoSi Tryz.underlying32 rfl (by decide) rfl (.tmp 53) (.tmp 57) rfl _ σ.si.length _ rfl (HI4.out.rsi.1.alloc _) _ (.pointer (some ⟨b2,0,none⟩)) (.pointer (some ⟨b3,0,none⟩)) rfl rfl rfl (World.cell?_alloc_at _ _ _ _ rfl) (World.cell?_alloc_at _ _ _ _ rfl) ?_ ?_;omega;intro v1 w5 hr1 hg1 hat1;obtain ⟨g9,cap9,cur9,rfl,_⟩:=hr1.open (Nat.succ_pos _);have bb:=HK.out w5 _ hg1;have d0:=bb.cell (i:=1) rfl;have f5:=bb.frozen)
 go_ret
 obtain ⟨T',σ',i1,i2⟩:=HI4.out.addSi hM hM2 ⟨b2,g2,b3,g3,⟨#[]⟩,pl,0⟩ ⟨Nat.zero_le _,Int.le_refl _,Int.natCast_nonneg _,by show pl.length≤_;omega⟩ HX.out _ _ hg1 hr1 hat1
 exact ⟨rfl,T',σ',i1,HB4.out.trans i2⟩
set_option maxRecDepth 100000 in
set_option maxHeartbeats 600000 in
theorem brought_3 {T:Tags} {base B M M':Nat} {σ:Sig} {w:World} (h:Inv T base B M σ w) (o:OpR) (hk:o.kind=3) (hs:o.s.size≤M) (hM:M<M') (hM2:M'≤1073741824):
  Calls Tryz.prog 32 #[.pointer (some ⟨B,0,none⟩),opV o] w fun e w'=>e = .returned (.bool true)∧Done base B M' w w':=by
 have z1:(o.kind==1)=false:=beq_eq_false_iff_ne.2 (by rw[hk];decide)
 have z2:(o.kind==2)=false:=beq_eq_false_iff_ne.2 (by rw[hk];decide)
 have z3:(o.kind==3)=true:=beq_iff_eq.2 hk
 have hb0:Below w.heap.size w (w.alloc (.cells #[.int .i64 o.kind,.int .i64 o.a,.int .i64 o.b,.int .i64 o.c,.string o.s,.string o.t] 28)):=(Below.refl _ _).alloc (Nat.le_refl _) _
 have hA:=h.below hb0
 have hbase:=h.bsz
 have hsl:w.heap.size<(w.alloc (.cells #[.int .i64 o.kind,.int .i64 o.a,.int .i64 o.b,.int .i64 o.c,.string o.s,.string o.t] 28)).heap.size:=by simp
 have e0:(w.alloc (.cells #[.int .i64 o.kind,.int .i64 o.a,.int .i64 o.b,.int .i64 o.c,.string o.s,.string o.t] 28)).cell? ⟨w.heap.size,0,none⟩=some (.int .i64 o.kind):=World.cell?_alloc_at _ _ _ _ rfl
 have e4:(w.alloc (.cells #[.int .i64 o.kind,.int .i64 o.a,.int .i64 o.b,.int .i64 o.c,.string o.s,.string o.t] 28)).cell? ⟨w.heap.size,4,none⟩=some (.string o.s):=World.cell?_alloc_at _ _ _ _ rfl
 have HA:=hide hA
 have HB:=hide (hb0.mono hbase)
 have hlen:=hA.bound
 unfold opV
 clear hA hb0 h hk hbase
 go_enter Tryz.func32,Tryz.ntmps32
 go_wp2_with fail
 refine (plan_any o.s _ (by omega)).mono ?_
 rintro e w2 ⟨pl,hpl,rfl,hBp,hb2⟩
 rw[←hpl]
 have hplen:pl.length≤M:=by omega
 clear hpl
 have HI2:=hide (HA.out.below hb2)
 have HB2:=hide (HB.out.trans (hb2.mono HA.out.bsz))
 have tp:=fresh_new (fresh T w (9,9)) (w.alloc (.cells #[.int .i64 o.kind,.int .i64 o.a,.int .i64 o.b,.int .i64 o.c,.string o.s,.string o.t] 28)) (9,9) _ (Nat.le_refl _)
 generalize fresh (fresh T w (9,9)) (w.alloc (.cells #[.int .i64 o.kind,.int .i64 o.a,.int .i64 o.b,.int .i64 o.c,.string o.s,.string o.t] 28)) (9,9)=T2 at *
 generalize (w.alloc (.cells #[.int .i64 o.kind,.int .i64 o.a,.int .i64 o.b,.int .i64 o.c,.string o.s,.string o.t] 28)).heap.size=w_p at *
 clear hb2 HA HB e0 e4 hsl
 have c11:=HI2.out.hw.1.cell (i:=11) rfl
 go_wp2_with fail
 refine (sourceOf_any σ.file w_p _ pl _ hBp (by omega)).mono ?_
 rintro e w3 ⟨b2,rfl,hgt2,hG2,hB2,hb3⟩
 have hI3:=HI2.out.same (Nat.le_refl _) HI2.out.bound.1 (Stays.of_below2 (27,σ.so.length) (26,σ.so.length) hb3)
 have t2:=fresh2_first T2 w2 (27,σ.so.length) (26,σ.so.length)
 have t2':=fresh2_other T2 w2 (27,σ.so.length) (26,σ.so.length) b2 hgt2
 have hBp3:=hBp.below hb3 hBp.lt
 have HB3:=hide (HB2.out.trans (hb3.mono HI2.out.bsz))
 generalize fresh2 T2 w2 (27,σ.so.length) (26,σ.so.length)=T3 at *
 generalize w2.heap.size=g2 at *
 have HI3:=hide hI3
 clear hI3 hb3 HI2 HB2 tp
 have c113:=HI3.out.hw.1.cell (i:=11) rfl
 go_wp2_with fail
 refine (sourceOf_any σ.file w_p _ pl _ hBp3 (by omega)).mono ?_
 rintro e w4 ⟨b3,rfl,hgt3,hG3,hB3,hb4⟩
 have hI4:=HI3.out.same (Nat.le_refl _) HI3.out.bound.1 (Stays.of_below2 (29,σ.so.length) (28,σ.so.length) hb4)
 have t3:=fresh2_first T3 w3 (29,σ.so.length) (28,σ.so.length)
 have t3':=fresh2_other T3 w3 (29,σ.so.length) (28,σ.so.length) b3 hgt3
 have t24:=(fresh2_old T3 w3 (29,σ.so.length) (28,σ.so.length) g2 hG2.lt).trans t2
 have t24':=(fresh2_old T3 w3 (29,σ.so.length) (28,σ.so.length) b2 hB2.lt).trans t2'
 have hG24:=hG2.below hb4 hG2.lt
 have hB24:=hB2.below hb4 hB2.lt
 have HB4:=hide (HB3.out.trans (hb4.mono HI3.out.bsz))
 generalize fresh2 T3 w3 (29,σ.so.length) (28,σ.so.length)=T4 at *
 generalize w3.heap.size=g3 at *
 have HX:=hide (show (At T4 w4 (26,σ.so.length) b2 175 (SourceR.cells ⟨b2,g2,b3,g3,σ.file,0,pl,0⟩ g2)∧At T4 w4 (27,σ.so.length) g2 3 (intV pl))∧At T4 w4 (28,σ.so.length) b3 175 (SourceR.cells ⟨b2,g2,b3,g3,σ.file,0,pl,0⟩ g3)∧At T4 w4 (29,σ.so.length) g3 3 (intV pl) from ⟨⟨⟨hB24,t24'⟩,⟨hG24,t24⟩⟩,⟨hB3,t3'⟩,⟨hG3,t3⟩⟩)
 have HI4:=hide hI4
 clear hI4 hb4 HI3 HB3 hG2 hB2 hG3 hB3 t2 t2' t3 t3' t24 t24' hG24 hB24 hgt2 hgt3 hBp hBp3
 have c1:=HI4.out.hw.1.cell (i:=2) rfl
 have key:=fun (w1:World) (o:Obj) (hg:(w4.alloc o).grownBy w1 σ.vso.ownBlock)=>(HI4.out.hw.1.alloc o).grown hg (fun e=>absurd (HI4.out.rso.2 B e.symm) (by rw[HI4.out.hw.2];decide))
 have HK:=hide key
 clear key
 go_wp2_with (at_builtin;refine wpList_append_two 100 33 _ 16 infoSo Tryz.underlying33 rfl (by decide) rfl (.tmp 82) (.tmp 86) rfl _ σ.so.length _ rfl (HI4.out.rso.1.alloc _) _ (.pointer (some ⟨b2,0,none⟩)) (.pointer (some ⟨b3,0,none⟩)) rfl rfl rfl (World.cell?_alloc_at _ _ _ _ rfl) (World.cell?_alloc_at _ _ _ _ rfl) ?_ ?_;omega;intro v1 w5 hr1 hg1 hat1;obtain ⟨g9,cap9,cur9,rfl,_⟩:=hr1.open (Nat.succ_pos _);have bb:=HK.out w5 _ hg1;have d0:=bb.cell (i:=2) rfl;have f5:=bb.frozen)
 go_ret
 obtain ⟨T',σ',i1,i2⟩:=HI4.out.addSo hM hM2 ⟨b2,g2,b3,g3,σ.file,0,pl,0⟩ ⟨by have:=HI4.out.sizes.2.2.2.1;show σ.file.size≤_;omega,Int.le_refl _,Int.natCast_nonneg _,Int.le_refl _,Int.natCast_nonneg _,by show pl.length≤_;omega⟩ HX.out _ _ hg1 hr1 hat1
 exact ⟨rfl,T',σ',i1,HB4.out.trans i2⟩
def Std (base B M:Nat) (σ:Sig) (w w':World):Prop:=(∃ T,Inv T base B M σ w')∧Below base w w'
theorem Std.done {base B M:Nat} {σ:Sig} {w w':World} (h:Std base B M σ w w'):Done base B M w w':=by
 obtain ⟨⟨T,h1⟩,h2⟩:=h
 exact ⟨T,σ,h1,h2⟩
theorem Std.alloc {base B M:Nat} {σ:Sig} {w w':World} (h:Std base B M σ w w') (o:Obj):Std base B M σ w (w'.alloc o):=by
 obtain ⟨⟨T,h1⟩,h2⟩:=h
 exact ⟨⟨_,h1.below ((Below.refl _ _).alloc (Nat.le_refl _) _)⟩,h2.alloc h1.bsz _⟩
theorem Std.drew {base B M:Nat} {σ:Sig} {w w':World} (h:Std base B M σ w w'):Std base B M σ w w'.drew:=by
 obtain ⟨⟨T,h1⟩,h2⟩:=h
 exact ⟨⟨_,h1.drew⟩,⟨h2.os,h2.tape,h2.output,h2.size,h2.block⟩⟩
theorem Std.drewN {base B M:Nat} {σ:Sig} {w w':World} (h:Std base B M σ w w') (n:Nat):Std base B M σ w (w'.drewN n):=by
 obtain ⟨⟨T,h1⟩,h2⟩:=h
 exact ⟨⟨_,h1.drewN n⟩,below_drewN h2 n⟩
theorem Std.eqv {base B M:Nat} {σ:Sig} {w w1 w2:World} (h:Std base B M σ w w1) (h1:w2.heap=w1.heap) (h2:w2.os=w1.os) (h3:w2.tape=w1.tape) (h4:w2.output=w1.output):Std base B M σ w w2:=by
 obtain ⟨⟨T,i⟩,b⟩:=h
 refine ⟨⟨T,i.same (Nat.le_refl _) i.bound.1 ⟨h2,h3,h4,by rw[h1];exact Nat.le_refl _,fun _ _=>rfl,fun _ _ _=>by rw[h1]⟩⟩,h2.trans b.os,h3.trans b.tape,h4.trans b.output,by rw[h1];exact b.size,fun g hg=>by rw[h1];exact b.block g hg⟩
theorem Std.spring {base B M:Nat} {σ:Sig} {w w':World} (h:Std base B M σ w w') {i:Nat} {p:SpringR} (hp:σ.sp[i]? = some p):
  w'.cell? ⟨p.bx,0,none⟩=some (.string p.text)∧w'.cell? ⟨p.bx,1,none⟩=some (.int .i64 p.pos)∧w'.cell? ⟨p.bm,0,none⟩=some (.string p.text)∧w'.cell? ⟨p.bm,1,none⟩=some (.int .i64 p.pos):=by
 obtain ⟨⟨T,h1⟩,_⟩:=h
 obtain ⟨a,b⟩:=h1.sp i p hp
 exact ⟨a.1.cell rfl,a.1.cell rfl,b.1.cell rfl,b.1.cell rfl⟩
theorem Std.source {base B M:Nat} {σ:Sig} {w w':World} (h:Std base B M σ w w') {i:Nat} {p:SourceR} (hp:σ.so[i]? = some p):
  w'.cell? ⟨p.bx,1,none⟩=some (.int .i64 p.pos)∧w'.cell? ⟨p.bm,1,none⟩=some (.int .i64 p.pos)∧w'.cell? ⟨p.bx,3,none⟩=some (.int .i64 p.step)∧w'.cell? ⟨p.bm,3,none⟩=some (.int .i64 p.step):=by
 obtain ⟨⟨T,h1⟩,_⟩:=h
 obtain ⟨⟨a,_⟩,b,_⟩:=h1.so i p hp
 exact ⟨a.1.cell rfl,b.1.cell rfl,a.1.cell rfl,b.1.cell rfl⟩
theorem Std.sink {base B M:Nat} {σ:Sig} {w w':World} (h:Std base B M σ w w') {i:Nat} {p:SinkR} (hp:σ.si[i]? = some p):
  w'.cell? ⟨p.bx,0,none⟩=some (.string p.got)∧w'.cell? ⟨p.bm,0,none⟩=some (.string p.got)∧w'.cell? ⟨p.bx,2,none⟩=some (.int .i64 p.pos)∧w'.cell? ⟨p.bm,2,none⟩=some (.int .i64 p.pos):=by
 obtain ⟨⟨T,h1⟩,_⟩:=h
 obtain ⟨⟨a,_⟩,b,_⟩:=h1.si i p hp
 exact ⟨a.1.cell rfl,b.1.cell rfl,a.1.cell rfl,b.1.cell rfl⟩
theorem Std.siK {base B M:Nat} {σ:Sig} {w w':World} (h:Std base B M σ w w') {i:Nat} {p:SinkR} (hp:σ.si[i]? = some p):SiK M p:=by
 obtain ⟨⟨T,h1⟩,_⟩:=h
 exact h1.siK i p hp
theorem Std.lens {base B M:Nat} {σ:Sig} {w w':World} (h:Std base B M σ w w'):∃ ao1 c1 ao2 c2 ao3 c3,σ.vsp = .slice ao1 σ.sp.length c1∧σ.vsi = .slice ao2 σ.si.length c2∧σ.vso = .slice ao3 σ.so.length c3:=by
 obtain ⟨⟨T,h1⟩,_⟩:=h
 obtain ⟨a1,b1,e1,_⟩:=h1.rsp.zero
 obtain ⟨a2,b2,e2,_⟩:=h1.rsi.zero
 obtain ⟨a3,b3,e3,_⟩:=h1.rso.zero
 exact ⟨a1,b1,a2,b2,a3,b3,e1,e2,e3⟩
theorem Std.field {base B M:Nat} {σ:Sig} {w w':World} (h:Std base B M σ w w') (f:Nat) {v:Value} (hv:σ.cells[f]? = some v):w'.cell? ⟨B,f,none⟩=some v:=by
 obtain ⟨⟨T,h1⟩,_⟩:=h
 exact h1.hw.1.cell hv
theorem Std.two {base B M:Nat} {σ:Sig} {w w':World} (h:Std base B M σ w w'):
  (∀ i p,σ.sp[i]? = some p→∃ g c,σ.vsp = .slice (some ⟨g,0,none⟩) σ.sp.length c∧c≤2 ^ 63-1∧∀ w2,Std base B M σ w w2→w2.cell? ⟨g,i*2,none⟩=some (.pointer (some ⟨p.bx,0,none⟩))∧w2.cell? ⟨g,i*2+1,none⟩=some (.pointer (some ⟨p.bm,0,none⟩))) ∧
  (∀ i p,σ.si[i]? = some p→∃ g c,σ.vsi = .slice (some ⟨g,0,none⟩) σ.si.length c∧c≤2 ^ 63-1∧∀ w2,Std base B M σ w w2→w2.cell? ⟨g,i*2,none⟩=some (.pointer (some ⟨p.bx,0,none⟩))∧w2.cell? ⟨g,i*2+1,none⟩=some (.pointer (some ⟨p.bm,0,none⟩))) ∧
  (∀ i p,σ.so[i]? = some p→∃ g c,σ.vso = .slice (some ⟨g,0,none⟩) σ.so.length c∧c≤2 ^ 63-1∧∀ w2,Std base B M σ w w2→w2.cell? ⟨g,i*2,none⟩=some (.pointer (some ⟨p.bx,0,none⟩))∧w2.cell? ⟨g,i*2+1,none⟩=some (.pointer (some ⟨p.bm,0,none⟩))):=by
 obtain ⟨⟨T,h1⟩,_⟩:=h
 refine ⟨fun i p hp=>?_,fun i p hp=>?_,fun i p hp=>?_⟩
 all_goals have hl:=(List.getElem?_eq_some_iff.1 hp).1
 ·obtain ⟨g,c,hv,_,hm,_⟩:=RowT.cells2 (f:=fun p:SpringR=>ptrs p.bx p.bm) (fun _=>rfl) h1.rsp (by omega)
  refine ⟨g,c,hv,hm,fun w2 h2=>?_⟩
  obtain ⟨⟨T2,h3⟩,_⟩:=h2
  obtain ⟨g',c',hv',_,_,_,_,_,hcell⟩:=RowT.cells2 (f:=fun p:SpringR=>ptrs p.bx p.bm) (fun _=>rfl) h3.rsp (by omega)
  rw[hv] at hv'
  injection hv' with e1 _ _
  injection e1 with e1
  injection e1 with e1 _ _
  subst e1
  exact ⟨hcell i p hp 0 _ rfl,hcell i p hp 1 _ rfl⟩
 ·obtain ⟨g,c,hv,_,hm,_⟩:=RowT.cells2 (f:=fun p:SinkR=>ptrs p.bx p.bm) (fun _=>rfl) h1.rsi (by omega)
  refine ⟨g,c,hv,hm,fun w2 h2=>?_⟩
  obtain ⟨⟨T2,h3⟩,_⟩:=h2
  obtain ⟨g',c',hv',_,_,_,_,_,hcell⟩:=RowT.cells2 (f:=fun p:SinkR=>ptrs p.bx p.bm) (fun _=>rfl) h3.rsi (by omega)
  rw[hv] at hv'
  injection hv' with e1 _ _
  injection e1 with e1
  injection e1 with e1 _ _
  subst e1
  exact ⟨hcell i p hp 0 _ rfl,hcell i p hp 1 _ rfl⟩
 ·obtain ⟨g,c,hv,_,hm,_⟩:=RowT.cells2 (f:=fun p:SourceR=>ptrs p.bx p.bm) (fun _=>rfl) h1.rso (by omega)
  refine ⟨g,c,hv,hm,fun w2 h2=>?_⟩
  obtain ⟨⟨T2,h3⟩,_⟩:=h2
  obtain ⟨g',c',hv',_,_,_,_,_,hcell⟩:=RowT.cells2 (f:=fun p:SourceR=>ptrs p.bx p.bm) (fun _=>rfl) h3.rso (by omega)
  rw[hv] at hv'
  injection hv' with e1 _ _
  injection e1 with e1
  injection e1 with e1 _ _
  subst e1
  exact ⟨hcell i p hp 0 _ rfl,hcell i p hp 1 _ rfl⟩
set_option maxRecDepth 100000 in
set_option maxHeartbeats 800000 in
theorem left_00 {T:Tags} {base B M:Nat} {σ:Sig} {w:World} (h:Inv T base B M σ w) (o:OpR)  (h1:σ.sp.length=0) (h2:σ.so.length=0):
  Calls Tryz.prog 74 #[.pointer (some ⟨B,0,none⟩),opV o] w fun e w'=>e = .returned (.bool true)∧Done base B M w w':=by
 have hS:Std base B M σ w (w.alloc (.cells #[.int .i64 o.kind,.int .i64 o.a,.int .i64 o.b,.int .i64 o.c,.string o.s,.string o.t] 28)):=Std.alloc ⟨⟨T,h⟩,Below.refl _ _⟩ _
 have e1:(w.alloc (.cells #[.int .i64 o.kind,.int .i64 o.a,.int .i64 o.b,.int .i64 o.c,.string o.s,.string o.t] 28)).cell? ⟨w.heap.size,1,none⟩=some (.int .i64 o.a):=World.cell?_alloc_at _ _ _ _ rfl
 obtain ⟨ao1,cp1,ao3,cp3,ao2,cp2,hv1,hv3,hv2⟩:=hS.lens
 have hbd:=h.bound
 clear hv3
 have v1:σ.vsp = .slice ao1 0 cp1:=by rw[hv1,h1]
 have v2:σ.vso = .slice ao2 0 cp2:=by rw[hv2,h2]
 have HF0:=hide (show ∀ w2,Std base B M σ w w2→w2.cell? ⟨B,0,none⟩=some (.slice ao1 0 cp1) from fun w2 h2=>h2.field 0 (by show some σ.vsp=_;rw[v1]))
 have HF2:=hide (show ∀ w2,Std base B M σ w w2→w2.cell? ⟨B,2,none⟩=some (.slice ao2 0 cp2) from fun w2 h2=>h2.field 2 (by show some σ.vso=_;rw[v2]))
 have HS:=hide hS
 clear hS h hv1 hv2 v1 h1 v2 h2
 have c0:=HF0.out _ HS.out
 have c2:=HF2.out _ HS.out
 unfold opV
 go_enter Tryz.func74,Tryz.ntmps74
 go_wp2
 go_ret
 exact ⟨rfl,HS.out.done⟩
set_option maxRecDepth 100000 in
set_option maxHeartbeats 800000 in
theorem left_10 {T:Tags} {base B M:Nat} {σ:Sig} {w:World} (h:Inv T base B M σ w) (o:OpR) (hok:o.ok) (h1:0<σ.sp.length) (h2:σ.so.length=0):
  Calls Tryz.prog 74 #[.pointer (some ⟨B,0,none⟩),opV o] w fun e w'=>e = .returned (.bool true)∧Done base B M w w':=by
 have hS:Std base B M σ w (w.alloc (.cells #[.int .i64 o.kind,.int .i64 o.a,.int .i64 o.b,.int .i64 o.c,.string o.s,.string o.t] 28)):=Std.alloc ⟨⟨T,h⟩,Below.refl _ _⟩ _
 have e1:(w.alloc (.cells #[.int .i64 o.kind,.int .i64 o.a,.int .i64 o.b,.int .i64 o.c,.string o.s,.string o.t] 28)).cell? ⟨w.heap.size,1,none⟩=some (.int .i64 o.a):=World.cell?_alloc_at _ _ _ _ rfl
 obtain ⟨ao1,cp1,ao3,cp3,ao2,cp2,hv1,hv3,hv2⟩:=hS.lens
 have hbd:=h.bound
 have hoa:=hok.a
 clear hv3
 have hpk1:=pickN_lt o.a σ.sp.length h1
 obtain ⟨p1,hp1⟩:∃ p,σ.sp[pickN o.a σ.sp.length]? = some p:=⟨_,List.getElem?_eq_getElem hpk1⟩
 obtain ⟨g1,cap1,hw1,hm1,hcell1⟩:=hS.two.1 _ p1 hp1
 have hpick1:=fun w=>pick_any o.a σ.sp.length w hoa.1 hoa.2 h1 (by omega)
 have jn1:(0:Int)<(σ.sp.length:Int):=by omega
 have kp1:(pickN o.a σ.sp.length:Int)<(σ.sp.length:Int):=by omega
 have HPK1:=hide hpick1
 have HC1:=hide hcell1
 have HP1:=hide hp1
 clear hpick1 hcell1 hp1
 have v2:σ.vso = .slice ao2 0 cp2:=by rw[hv2,h2]
 have HF0:=hide (show ∀ w2,Std base B M σ w w2→w2.cell? ⟨B,0,none⟩=some (.slice (some ⟨g1,0,none⟩) σ.sp.length cap1) from fun w2 h2=>h2.field 0 (by show some σ.vsp=_;rw[hw1]))
 have HF2:=hide (show ∀ w2,Std base B M σ w w2→w2.cell? ⟨B,2,none⟩=some (.slice ao2 0 cp2) from fun w2 h2=>h2.field 2 (by show some σ.vso=_;rw[v2]))
 have HS:=hide hS
 clear hS h hv1 hv2 hw1 v2 h2
 generalize hn1:σ.sp.length=n1 at *
 generalize pickN o.a n1=pk1 at *
 clear hn1
 have c0:=HF0.out _ HS.out
 have c2:=HF2.out _ HS.out
 unfold opV
 go_enter Tryz.func74,Tryz.ntmps74
 go_wp2
 refine wp_letterW (fun w'=>Std base B M σ w w'∧w'.cell? ⟨w.heap.size,1,none⟩=some (.int .i64 o.a)) ⟨HS.out,e1⟩ ?_
 clear c0 c2 e1 HS
 rintro wq1 ⟨hS1,e1⟩
 have c0:=HF0.out _ hS1
 obtain ⟨d0,d1⟩:=HC1.out _ hS1
 replace hS1:=hide hS1
 go_region_held3 (fun w'=>w'.cell? ⟨B,0,none⟩=some (.slice (some ⟨g1,0,none⟩) n1 cap1)∧w'.cell? ⟨w.heap.size,1,none⟩=some (.int .i64 o.a)∧w'.cell? ⟨g1,pk1*2,none⟩=some (.pointer (some ⟨p1.bx,0,none⟩))∧w'.cell? ⟨g1,pk1*2+1,none⟩=some (.pointer (some ⟨p1.bm,0,none⟩))) (refine ⟨?_,?_,?_,?_⟩ <;> first | assumption | (exact World.cell?_alloc_later _ _ _ (by assumption))) ((go_at_call 48;refine (HPK1.out _).mono ?_;rintro e w' ⟨rfl,rfl⟩))
 all_goals
  have e1n:(wq1.alloc (.cells #[.pointer (some ⟨p1.bx,0,none⟩),.pointer (some ⟨p1.bm,0,none⟩)] 91)).cell? ⟨w.heap.size,1,none⟩=some (.int .i64 o.a):=World.cell?_alloc_later _ _ _ e1
  have HSn:=hide ((hS1.out.alloc (.cells #[.pointer (some ⟨p1.bx,0,none⟩),.pointer (some ⟨p1.bm,0,none⟩)] 91)).drew)
  obtain ⟨x0,x1,x2,x3⟩:=HSn.out.spring HP1.out
  have c2n:=HF2.out _ (hS1.out.alloc (.cells #[.pointer (some ⟨p1.bx,0,none⟩),.pointer (some ⟨p1.bm,0,none⟩)] 91))
  clear c0 d0 d1 e1 hS1
  go_wp2_with fail
  refine (springLeft_any p1.bx p1.text p1.pos _ x0 x1).mono ?_
  rintro e w2 ⟨rfl,m2,rfl⟩
  go_wp2_with fail
  refine Calls.mono (springLeft_any p1.bm p1.text p1.pos _ ?_ ?_) ?_
  ·exact x2
  ·exact x3
  rintro e w3 ⟨rfl,m3,rfl⟩
  generalize IntKind.i64.wrap ((p1.text.size:Int)-p1.pos)=yy at *
  go_wp2
  go_ret
  refine ⟨rfl,Std.done (σ:=σ) ?_⟩
  exact HSn.out.eqv rfl rfl rfl rfl
set_option maxRecDepth 100000 in
set_option maxHeartbeats 800000 in
theorem left_01 {T:Tags} {base B M:Nat} {σ:Sig} {w:World} (h:Inv T base B M σ w) (o:OpR) (hok:o.ok) (h1:σ.sp.length=0) (h2:0<σ.so.length):
  Calls Tryz.prog 74 #[.pointer (some ⟨B,0,none⟩),opV o] w fun e w'=>e = .returned (.bool true)∧Done base B M w w':=by
 have hS:Std base B M σ w (w.alloc (.cells #[.int .i64 o.kind,.int .i64 o.a,.int .i64 o.b,.int .i64 o.c,.string o.s,.string o.t] 28)):=Std.alloc ⟨⟨T,h⟩,Below.refl _ _⟩ _
 have e1:(w.alloc (.cells #[.int .i64 o.kind,.int .i64 o.a,.int .i64 o.b,.int .i64 o.c,.string o.s,.string o.t] 28)).cell? ⟨w.heap.size,1,none⟩=some (.int .i64 o.a):=World.cell?_alloc_at _ _ _ _ rfl
 obtain ⟨ao1,cp1,ao3,cp3,ao2,cp2,hv1,hv3,hv2⟩:=hS.lens
 have hbd:=h.bound
 have hoa:=hok.a
 clear hv3
 have v1:σ.vsp = .slice ao1 0 cp1:=by rw[hv1,h1]
 have hpk2:=pickN_lt o.a σ.so.length h2
 obtain ⟨p2,hp2⟩:∃ p,σ.so[pickN o.a σ.so.length]? = some p:=⟨_,List.getElem?_eq_getElem hpk2⟩
 obtain ⟨g2,cap2,hw2,hm2,hcell2⟩:=hS.two.2.2 _ p2 hp2
 have hpick2:=fun w=>pick_any o.a σ.so.length w hoa.1 hoa.2 h2 (by omega)
 have jn2:(0:Int)<(σ.so.length:Int):=by omega
 have kp2:(pickN o.a σ.so.length:Int)<(σ.so.length:Int):=by omega
 have HPK2:=hide hpick2
 have HC2:=hide hcell2
 have HP2:=hide hp2
 clear hpick2 hcell2 hp2
 have HF0:=hide (show ∀ w2,Std base B M σ w w2→w2.cell? ⟨B,0,none⟩=some (.slice ao1 0 cp1) from fun w2 h2=>h2.field 0 (by show some σ.vsp=_;rw[v1]))
 have HF2:=hide (show ∀ w2,Std base B M σ w w2→w2.cell? ⟨B,2,none⟩=some (.slice (some ⟨g2,0,none⟩) σ.so.length cap2) from fun w2 h2=>h2.field 2 (by show some σ.vso=_;rw[hw2]))
 have HS:=hide hS
 clear hS h hv1 hv2 v1 h1 hw2
 generalize hn2:σ.so.length=n2 at *
 generalize pickN o.a n2=pk2 at *
 clear hn2
 have c0:=HF0.out _ HS.out
 have c2:=HF2.out _ HS.out
 unfold opV
 go_enter Tryz.func74,Tryz.ntmps74
 go_wp2
 refine wp_letterW (fun w'=>Std base B M σ w w'∧w'.cell? ⟨w.heap.size,1,none⟩=some (.int .i64 o.a)) ⟨HS.out,e1⟩ ?_
 clear c0 c2 e1 HS
 rintro wq2 ⟨hS2,e1⟩
 have c2:=HF2.out _ hS2
 obtain ⟨d0,d1⟩:=HC2.out _ hS2
 replace hS2:=hide hS2
 go_region_held3 (fun w'=>w'.cell? ⟨B,2,none⟩=some (.slice (some ⟨g2,0,none⟩) n2 cap2)∧w'.cell? ⟨w.heap.size,1,none⟩=some (.int .i64 o.a)∧w'.cell? ⟨g2,pk2*2,none⟩=some (.pointer (some ⟨p2.bx,0,none⟩))∧w'.cell? ⟨g2,pk2*2+1,none⟩=some (.pointer (some ⟨p2.bm,0,none⟩))) (refine ⟨?_,?_,?_,?_⟩ <;> first | assumption | (exact World.cell?_alloc_later _ _ _ (by assumption))) ((go_at_call 48;refine (HPK2.out _).mono ?_;rintro e w' ⟨rfl,rfl⟩))
 all_goals
  have HSn:=hide ((hS2.out.alloc (.cells #[.pointer (some ⟨p2.bx,0,none⟩),.pointer (some ⟨p2.bm,0,none⟩)] 100)).drew)
  obtain ⟨y0,y1,y2,y3⟩:=HSn.out.source HP2.out
  clear c2 d0 d1 e1 hS2
  go_wp2_with fail
  refine (place_any p2.bx p2.pos _ y0).mono ?_
  rintro e w2 ⟨rfl,rfl⟩
  go_wp2_with fail
  refine (place_any p2.bm p2.pos _ y1).mono ?_
  rintro e w2 ⟨rfl,rfl⟩
  go_wp2_with fail
  refine (sourceCalls_any p2.bx p2.step _ y2).mono ?_
  rintro e w2 ⟨rfl,rfl⟩
  go_wp2_with fail
  refine (sourceCalls_any p2.bm p2.step _ y3).mono ?_
  rintro e w2 ⟨rfl,rfl⟩
  go_wp2
  go_ret
  exact ⟨by simp,HSn.out.done⟩
set_option maxRecDepth 100000 in
set_option maxHeartbeats 800000 in
theorem left_11 {T:Tags} {base B M:Nat} {σ:Sig} {w:World} (h:Inv T base B M σ w) (o:OpR) (hok:o.ok) (h1:0<σ.sp.length) (h2:0<σ.so.length):
  Calls Tryz.prog 74 #[.pointer (some ⟨B,0,none⟩),opV o] w fun e w'=>e = .returned (.bool true)∧Done base B M w w':=by
 have hS:Std base B M σ w (w.alloc (.cells #[.int .i64 o.kind,.int .i64 o.a,.int .i64 o.b,.int .i64 o.c,.string o.s,.string o.t] 28)):=Std.alloc ⟨⟨T,h⟩,Below.refl _ _⟩ _
 have e1:(w.alloc (.cells #[.int .i64 o.kind,.int .i64 o.a,.int .i64 o.b,.int .i64 o.c,.string o.s,.string o.t] 28)).cell? ⟨w.heap.size,1,none⟩=some (.int .i64 o.a):=World.cell?_alloc_at _ _ _ _ rfl
 obtain ⟨ao1,cp1,ao3,cp3,ao2,cp2,hv1,hv3,hv2⟩:=hS.lens
 have hbd:=h.bound
 have hoa:=hok.a
 clear hv3
 have hpk1:=pickN_lt o.a σ.sp.length h1
 obtain ⟨p1,hp1⟩:∃ p,σ.sp[pickN o.a σ.sp.length]? = some p:=⟨_,List.getElem?_eq_getElem hpk1⟩
 obtain ⟨g1,cap1,hw1,hm1,hcell1⟩:=hS.two.1 _ p1 hp1
 have hpick1:=fun w=>pick_any o.a σ.sp.length w hoa.1 hoa.2 h1 (by omega)
 have jn1:(0:Int)<(σ.sp.length:Int):=by omega
 have kp1:(pickN o.a σ.sp.length:Int)<(σ.sp.length:Int):=by omega
 have HPK1:=hide hpick1
 have HC1:=hide hcell1
 have HP1:=hide hp1
 clear hpick1 hcell1 hp1
 have hpk2:=pickN_lt o.a σ.so.length h2
 obtain ⟨p2,hp2⟩:∃ p,σ.so[pickN o.a σ.so.length]? = some p:=⟨_,List.getElem?_eq_getElem hpk2⟩
 obtain ⟨g2,cap2,hw2,hm2,hcell2⟩:=hS.two.2.2 _ p2 hp2
 have hpick2:=fun w=>pick_any o.a σ.so.length w hoa.1 hoa.2 h2 (by omega)
 have jn2:(0:Int)<(σ.so.length:Int):=by omega
 have kp2:(pickN o.a σ.so.length:Int)<(σ.so.length:Int):=by omega
 have HPK2:=hide hpick2
 have HC2:=hide hcell2
 have HP2:=hide hp2
 clear hpick2 hcell2 hp2
 have HF0:=hide (show ∀ w2,Std base B M σ w w2→w2.cell? ⟨B,0,none⟩=some (.slice (some ⟨g1,0,none⟩) σ.sp.length cap1) from fun w2 h2=>h2.field 0 (by show some σ.vsp=_;rw[hw1]))
 have HF2:=hide (show ∀ w2,Std base B M σ w w2→w2.cell? ⟨B,2,none⟩=some (.slice (some ⟨g2,0,none⟩) σ.so.length cap2) from fun w2 h2=>h2.field 2 (by show some σ.vso=_;rw[hw2]))
 have HS:=hide hS
 clear hS h hv1 hv2 hw1 hw2
 generalize hn1:σ.sp.length=n1 at *
 generalize pickN o.a n1=pk1 at *
 clear hn1
 generalize hn2:σ.so.length=n2 at *
 generalize pickN o.a n2=pk2 at *
 clear hn2
 have c0:=HF0.out _ HS.out
 have c2:=HF2.out _ HS.out
 unfold opV
 go_enter Tryz.func74,Tryz.ntmps74
 go_wp2
 refine wp_letterW (fun w'=>Std base B M σ w w'∧w'.cell? ⟨w.heap.size,1,none⟩=some (.int .i64 o.a)) ⟨HS.out,e1⟩ ?_
 clear c0 c2 e1 HS
 rintro wq1 ⟨hS1,e1⟩
 have c0:=HF0.out _ hS1
 obtain ⟨d0,d1⟩:=HC1.out _ hS1
 replace hS1:=hide hS1
 go_region_held3 (fun w'=>w'.cell? ⟨B,0,none⟩=some (.slice (some ⟨g1,0,none⟩) n1 cap1)∧w'.cell? ⟨w.heap.size,1,none⟩=some (.int .i64 o.a)∧w'.cell? ⟨g1,pk1*2,none⟩=some (.pointer (some ⟨p1.bx,0,none⟩))∧w'.cell? ⟨g1,pk1*2+1,none⟩=some (.pointer (some ⟨p1.bm,0,none⟩))) (refine ⟨?_,?_,?_,?_⟩ <;> first | assumption | (exact World.cell?_alloc_later _ _ _ (by assumption))) ((go_at_call 48;refine (HPK1.out _).mono ?_;rintro e w' ⟨rfl,rfl⟩))
 all_goals
  have e1n:(wq1.alloc (.cells #[.pointer (some ⟨p1.bx,0,none⟩),.pointer (some ⟨p1.bm,0,none⟩)] 91)).cell? ⟨w.heap.size,1,none⟩=some (.int .i64 o.a):=World.cell?_alloc_later _ _ _ e1
  have HSn:=hide ((hS1.out.alloc (.cells #[.pointer (some ⟨p1.bx,0,none⟩),.pointer (some ⟨p1.bm,0,none⟩)] 91)).drew)
  obtain ⟨x0,x1,x2,x3⟩:=HSn.out.spring HP1.out
  have c2n:=HF2.out _ (hS1.out.alloc (.cells #[.pointer (some ⟨p1.bx,0,none⟩),.pointer (some ⟨p1.bm,0,none⟩)] 91))
  clear c0 d0 d1 e1 hS1
  go_wp2_with fail
  refine (springLeft_any p1.bx p1.text p1.pos _ x0 x1).mono ?_
  rintro e w2 ⟨rfl,m2,rfl⟩
  go_wp2_with fail
  refine Calls.mono (springLeft_any p1.bm p1.text p1.pos _ ?_ ?_) ?_
  ·exact x2
  ·exact x3
  rintro e w3 ⟨rfl,m3,rfl⟩
  generalize IntKind.i64.wrap ((p1.text.size:Int)-p1.pos)=yy at *
  go_wp2
  refine wp_letterW (fun w'=>Std base B M σ w w'∧w'.cell? ⟨w.heap.size,1,none⟩=some (.int .i64 o.a)) ⟨HSn.out.eqv rfl rfl rfl rfl,e1n⟩ ?_
  clear x0 x1 x2 x3 c2n e1n HSn
  rintro wq2 ⟨hS2,e1⟩
  have c2:=HF2.out _ hS2
  obtain ⟨d0,d1⟩:=HC2.out _ hS2
  replace hS2:=hide hS2
  go_region_held3 (fun w'=>w'.cell? ⟨B,2,none⟩=some (.slice (some ⟨g2,0,none⟩) n2 cap2)∧w'.cell? ⟨w.heap.size,1,none⟩=some (.int .i64 o.a)∧w'.cell? ⟨g2,pk2*2,none⟩=some (.pointer (some ⟨p2.bx,0,none⟩))∧w'.cell? ⟨g2,pk2*2+1,none⟩=some (.pointer (some ⟨p2.bm,0,none⟩))) (refine ⟨?_,?_,?_,?_⟩ <;> first | assumption | (exact World.cell?_alloc_later _ _ _ (by assumption))) ((go_at_call 48;refine (HPK2.out _).mono ?_;rintro e w' ⟨rfl,rfl⟩))
  all_goals
   have HSn:=hide ((hS2.out.alloc (.cells #[.pointer (some ⟨p2.bx,0,none⟩),.pointer (some ⟨p2.bm,0,none⟩)] 100)).drew)
   obtain ⟨y0,y1,y2,y3⟩:=HSn.out.source HP2.out
   clear c2 d0 d1 e1 hS2
   go_wp2_with fail
   refine (place_any p2.bx p2.pos _ y0).mono ?_
   rintro e w2 ⟨rfl,rfl⟩
   go_wp2_with fail
   refine (place_any p2.bm p2.pos _ y1).mono ?_
   rintro e w2 ⟨rfl,rfl⟩
   go_wp2_with fail
   refine (sourceCalls_any p2.bx p2.step _ y2).mono ?_
   rintro e w2 ⟨rfl,rfl⟩
   go_wp2_with fail
   refine (sourceCalls_any p2.bm p2.step _ y3).mono ?_
   rintro e w2 ⟨rfl,rfl⟩
   go_wp2
   go_ret
   exact ⟨by simp,HSn.out.done⟩
theorem Std.more {base B M M':Nat} {σ:Sig} {w w':World} (h:Std base B M σ w w') (hM:M≤M') (hM2:M'≤1073741824):Std base B M' σ w w':=by
 obtain ⟨⟨T,h1⟩,h2⟩:=h
 exact ⟨⟨T,h1.more hM hM2⟩,h2⟩
theorem Done.more {base B M M':Nat} {w w':World} (h:Done base B M w w') (hM:M≤M') (hM2:M'≤1073741824):Done base B M' w w':=by
 obtain ⟨T,σ,h1,h2⟩:=h
 exact ⟨T,σ,h1.more hM hM2,h2⟩
theorem Done.from {base B M':Nat} {w w1 w':World} (hb:Below base w w1) (h:Done base B M' w1 w'):Done base B M' w w':=by
 obtain ⟨T,σ,h1,h2⟩:=h
 exact ⟨T,σ,h1,hb.trans h2⟩
theorem left_any {T:Tags} {base B M:Nat} {σ:Sig} {w:World} (h:Inv T base B M σ w) (o:OpR) (hok:o.ok):
  Calls Tryz.prog 74 #[.pointer (some ⟨B,0,none⟩),opV o] w fun e w'=>e = .returned (.bool true)∧Done base B M w w':=by
 rcases Nat.eq_zero_or_pos σ.sp.length with h1 | h1 <;> rcases Nat.eq_zero_or_pos σ.so.length with h2 | h2
 ·exact left_00 h o h1 h2
 ·exact left_01 h o hok h1 h2
 ·exact left_10 h o hok h1 h2
 ·exact left_11 h o hok h1 h2
set_option maxRecDepth 100000 in
set_option maxHeartbeats 800000 in
theorem brought_8n {T:Tags} {base B M M':Nat} {σ:Sig} {w:World} (h:Inv T base B M σ w) (o:OpR) (hk:o.kind=8) (hM:M<M') (hM2:M'≤1073741824) (h1:σ.si.length=0):
  Calls Tryz.prog 32 #[.pointer (some ⟨B,0,none⟩),opV o] w fun e w'=>e = .returned (.bool true)∧Done base B M' w w':=by
 have z1:(o.kind==1)=false:=beq_eq_false_iff_ne.2 (by rw[hk];decide)
 have z2:(o.kind==2)=false:=beq_eq_false_iff_ne.2 (by rw[hk];decide)
 have z3:(o.kind==3)=false:=beq_eq_false_iff_ne.2 (by rw[hk];decide)
 have z8:(o.kind==8)=true:=beq_iff_eq.2 hk
 have hS:Std base B M σ w (w.alloc (.cells #[.int .i64 o.kind,.int .i64 o.a,.int .i64 o.b,.int .i64 o.c,.string o.s,.string o.t] 28)):=Std.alloc ⟨⟨T,h⟩,Below.refl _ _⟩ _
 obtain ⟨ao1,cp1,ao3,cp3,ao2,cp2,hv1,hv3,hv2⟩:=hS.lens
 have c1:=hS.field 1 (v:=.slice ao3 0 cp3) (by show some σ.vsi=_;rw[hv3,h1])
 have HS:=hide (hS.more (Nat.le_of_lt hM) hM2)
 clear hS h hv1 hv2 hv3 h1 hk
 unfold opV
 go_enter Tryz.func32,Tryz.ntmps32
 go_wp2
 go_ret
 exact ⟨rfl,HS.out.done⟩
set_option maxRecDepth 100000 in
set_option maxHeartbeats 800000 in
theorem brought_8s {T:Tags} {base B M M':Nat} {σ:Sig} {w:World} (h:Inv T base B M σ w) (o:OpR) (hok:o.ok) (hk:o.kind=8) (hM:M<M') (hM2:M'≤1073741824) (h1:0<σ.si.length):
  Calls Tryz.prog 32 #[.pointer (some ⟨B,0,none⟩),opV o] w fun e w'=>e = .returned (.bool true)∧Done base B M' w w':=by
 have z1:(o.kind==1)=false:=beq_eq_false_iff_ne.2 (by rw[hk];decide)
 have z2:(o.kind==2)=false:=beq_eq_false_iff_ne.2 (by rw[hk];decide)
 have z3:(o.kind==3)=false:=beq_eq_false_iff_ne.2 (by rw[hk];decide)
 have z8:(o.kind==8)=true:=beq_iff_eq.2 hk
 have hS:Std base B M σ w (w.alloc (.cells #[.int .i64 o.kind,.int .i64 o.a,.int .i64 o.b,.int .i64 o.c,.string o.s,.string o.t] 28)):=Std.alloc ⟨⟨T,h⟩,Below.refl _ _⟩ _
 have e1:(w.alloc (.cells #[.int .i64 o.kind,.int .i64 o.a,.int .i64 o.b,.int .i64 o.c,.string o.s,.string o.t] 28)).cell? ⟨w.heap.size,1,none⟩=some (.int .i64 o.a):=World.cell?_alloc_at _ _ _ _ rfl
 have hbd:=h.bound
 have hoa:=hok.a
 have hpk1:=pickN_lt o.a σ.si.length h1
 obtain ⟨p1,hp1⟩:∃ p,σ.si[pickN o.a σ.si.length]? = some p:=⟨_,List.getElem?_eq_getElem hpk1⟩
 obtain ⟨g1,cap1,hw1,hm1,hcell1⟩:=hS.two.2.1 _ p1 hp1
 have hpick1:=fun w=>pick_any o.a σ.si.length w hoa.1 hoa.2 h1 (by omega)
 have jn1:(0:Int)<(σ.si.length:Int):=by omega
 have kp1:(pickN o.a σ.si.length:Int)<(σ.si.length:Int):=by omega
 have HPK1:=hide hpick1
 have HC1:=hide hcell1
 have HP1:=hide hp1
 clear hpick1 hcell1 hp1
 have HF0:=hide (show ∀ w2,Std base B M σ w w2→w2.cell? ⟨B,1,none⟩=some (.slice (some ⟨g1,0,none⟩) σ.si.length cap1) from fun w2 h2=>h2.field 1 (by show some σ.vsi=_;rw[hw1]))
 have HS:=hide hS
 clear hS h hw1 hk
 generalize hn1:σ.si.length=n1 at *
 generalize pickN o.a n1=pk1 at *
 clear hn1
 have c0:=HF0.out _ HS.out
 unfold opV
 go_enter Tryz.func32,Tryz.ntmps32
 go_wp2
 refine wp_letterW (fun w'=>Std base B M σ w w'∧w'.cell? ⟨w.heap.size,1,none⟩=some (.int .i64 o.a)) ⟨HS.out,e1⟩ ?_
 clear c0 e1 HS
 rintro wq1 ⟨hS1,e1⟩
 have c0:=HF0.out _ hS1
 obtain ⟨d0,d1⟩:=HC1.out _ hS1
 replace hS1:=hide hS1
 go_region_held3 (fun w'=>w'.cell? ⟨B,1,none⟩=some (.slice (some ⟨g1,0,none⟩) n1 cap1)∧w'.cell? ⟨w.heap.size,1,none⟩=some (.int .i64 o.a)∧w'.cell? ⟨g1,pk1*2,none⟩=some (.pointer (some ⟨p1.bx,0,none⟩))∧w'.cell? ⟨g1,pk1*2+1,none⟩=some (.pointer (some ⟨p1.bm,0,none⟩))) (refine ⟨?_,?_,?_,?_⟩ <;> first | assumption | (exact World.cell?_alloc_later _ _ _ (by assumption))) ((go_at_call 48;refine (HPK1.out _).mono ?_;rintro e w' ⟨rfl,rfl⟩))
 all_goals
  have HSn:=hide ((hS1.out.alloc (.cells #[.pointer (some ⟨p1.bx,0,none⟩),.pointer (some ⟨p1.bm,0,none⟩)] 96)).drew)
  obtain ⟨x0,x1,x2,x3⟩:=HSn.out.sink HP1.out
  have hgot:=(HSn.out.siK HP1.out).got
  clear c0 d0 d1 e1 hS1
  go_wp2_with fail
  refine (sinkGot_any p1.bx p1.got _ x0).mono ?_
  rintro e w2 ⟨rfl,rfl⟩
  go_wp2_with fail
  refine (sinkGot_any p1.bm p1.got _ x1).mono ?_
  rintro e w2 ⟨rfl,rfl⟩
  go_wp2_with fail
  refine (sinkCalls_any p1.bx p1.pos _ x2).mono ?_
  rintro e w2 ⟨rfl,rfl⟩
  go_wp2_with fail
  refine (sinkCalls_any p1.bm p1.pos _ x3).mono ?_
  rintro e w2 ⟨rfl,rfl⟩
  clear x0 x1 x2 x3
  go_wp2_with fail
  obtain ⟨⟨T9,hI9⟩,hB9⟩:=HSn.out
  have HB9:=hide hB9
  have HI9:=hide hI9
  refine (word_any hI9 p1.got hM hM2 (by omega)).mono ?_
  rintro e w5 ⟨rfl,T5,v5,hI5,hst⟩
  have HI5:=hide hI5
  have HST:=hide hst
  clear hI9 hB9 hI5 hst HSn
  go_wp2
  go_ret
  exact ⟨by simp,T5,_,HI5.out,HB9.out.trans (HST.out.below HI9.out.bsz HI9.out.old (by simp))⟩
theorem brought_8 {T:Tags} {base B M M':Nat} {σ:Sig} {w:World} (h:Inv T base B M σ w) (o:OpR) (hok:o.ok) (hk:o.kind=8) (hM:M<M') (hM2:M'≤1073741824):
  Calls Tryz.prog 32 #[.pointer (some ⟨B,0,none⟩),opV o] w fun e w'=>e = .returned (.bool true)∧Done base B M' w w':=by
 rcases Nat.eq_zero_or_pos σ.si.length with h1 | h1
 ·exact brought_8n h o hk hM hM2 h1
 ·exact brought_8s h o hok hk hM hM2 h1
set_option maxRecDepth 100000 in
set_option maxHeartbeats 800000 in
theorem brought_9 {T:Tags} {base B M M':Nat} {σ:Sig} {w:World} (h:Inv T base B M σ w) (o:OpR) (hok:o.ok) (hk:o.kind=9) (hM:M<M') (hM2:M'≤1073741824):
  Calls Tryz.prog 32 #[.pointer (some ⟨B,0,none⟩),opV o] w fun e w'=>e = .returned (.bool true)∧Done base B M' w w':=by
 have z1:(o.kind==1)=false:=beq_eq_false_iff_ne.2 (by rw[hk];decide)
 have z2:(o.kind==2)=false:=beq_eq_false_iff_ne.2 (by rw[hk];decide)
 have z3:(o.kind==3)=false:=beq_eq_false_iff_ne.2 (by rw[hk];decide)
 have z8:(o.kind==8)=false:=beq_eq_false_iff_ne.2 (by rw[hk];decide)
 have z9:(o.kind==9)=true:=beq_iff_eq.2 hk
 have hS:Std base B M σ w (w.alloc (.cells #[.int .i64 o.kind,.int .i64 o.a,.int .i64 o.b,.int .i64 o.c,.string o.s,.string o.t] 28)):=Std.alloc ⟨⟨T,h⟩,Below.refl _ _⟩ _
 have HS:=hide hS
 clear hS h hk
 unfold opV
 go_enter Tryz.func32,Tryz.ntmps32
 go_wp2_with fail
 obtain ⟨⟨T9,hI9⟩,hB9⟩:=HS.out
 refine (left_any hI9 o hok).mono ?_
 rintro e w5 ⟨rfl,hd⟩
 have HD:=hide (Done.from hB9 (hd.more (Nat.le_of_lt hM) hM2))
 clear hd hI9 hB9 HS
 go_wp2
 go_ret
 exact ⟨rfl,HD.out⟩
end Go.Proofs.YtmjekklgefdolaaGreatDoor
