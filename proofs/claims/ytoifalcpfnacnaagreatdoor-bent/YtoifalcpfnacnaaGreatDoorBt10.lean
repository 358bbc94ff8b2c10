import Derived.Test.YtoifalcpfnacnaaGreatDoorBt9
namespace Go.Proofs.YtoifalcpfnacnaaGreatDoor
open Go.RowKit
namespace Ref
def New (m:List UInt8) (x:Src) (i0:Src) (i1:Int) (i2:List UInt8):Prop:=∀ P:Src→Int→List UInt8→Prop,(m.length≠32→P x 1 [])→(∀ (y:Src) (j:Nat),m.length=32→Src.Top x.rest x 0 y j 2→P y 17 [])→(∀ (y:Src) (j c:Nat),m.length=32→Src.Top x.rest x 0 y j c→c≠2→(opnA m (topS x j)).2≠0→P y (opnA m (topS x j)).2 [])→(∀ (y:Src) (j c:Nat) (z:Src) (d:Nat),m.length=32→Src.Top x.rest x 0 y j c→c≠2→(opnA m (topS x j)).2=0→Src.Ask y 16 z d→d≠0→P z (if d=2 then 17 else 10) [])→(∀ (y:Src) (j c:Nat) (z:Src),m.length=32→Src.Top x.rest x 0 y j c→c≠2→(opnA m (topS x j)).2=0→Src.Ask y 16 z 0→P z 0 (keyL (opnA m (topS x j)).1 (topS y 16).data.toList inBody))→P i0 i1 i2
theorem New.len {m:List UInt8} {x:Src} (h0:m.length≠32):New m x x 1 []:=fun _ c0 _ _ _ _=>c0 h0
theorem New.src {m:List UInt8} {x:Src} (y:Src) (j:Nat) (h0:m.length=32) (h1:Src.Top x.rest x 0 y j 2):New m x y 17 []:=fun _ _ c1 _ _ _=>c1 y j h0 h1
theorem New.top {m:List UInt8} {x:Src} (y:Src) (j c:Nat) (h0:m.length=32) (h1:Src.Top x.rest x 0 y j c) (h2:c≠2) (h3:(opnA m (topS x j)).2≠0):New m x y (opnA m (topS x j)).2 []:=fun _ _ _ c2 _ _=>c2 y j c h0 h1 h2 h3
theorem New.cut {m:List UInt8} {x:Src} (y:Src) (j c:Nat) (z:Src) (d:Nat) (h0:m.length=32) (h1:Src.Top x.rest x 0 y j c) (h2:c≠2) (h3:(opnA m (topS x j)).2=0) (h4:Src.Ask y 16 z d) (h5:d≠0):New m x z (if d=2 then 17 else 10) []:=fun _ _ _ _ c3 _=>c3 y j c z d h0 h1 h2 h3 h4 h5
theorem New.ok {m:List UInt8} {x:Src} (y:Src) (j c:Nat) (z:Src) (h0:m.length=32) (h1:Src.Top x.rest x 0 y j c) (h2:c≠2) (h3:(opnA m (topS x j)).2=0) (h4:Src.Ask y 16 z 0):New m x z 0 (keyL (opnA m (topS x j)).1 (topS y 16).data.toList inBody):=fun _ _ _ _ _ c4=>c4 y j c z h0 h1 h2 h3 h4
theorem New.elim {m:List UInt8} {x:Src} {motive:∀ i0 i1 i2,New m x i0 i1 i2→Prop} (len:∀ h0,motive _ _ _ (New.len h0)) (src:∀ y j h0 h1,motive _ _ _ (New.src y j h0 h1)) (top:∀ y j c h0 h1 h2 h3,motive _ _ _ (New.top y j c h0 h1 h2 h3)) (cut:∀ y j c z d h0 h1 h2 h3 h4 h5,motive _ _ _ (New.cut y j c z d h0 h1 h2 h3 h4 h5)) (ok:∀ y j c z h0 h1 h2 h3 h4,motive _ _ _ (New.ok y j c z h0 h1 h2 h3 h4)) {i0 i1 i2} (h:New m x i0 i1 i2):motive _ _ _ h:=by
 obtain ⟨_,q⟩:=h (fun i0 i1 i2=>∃ h,motive i0 i1 i2 h) (fun h0=>⟨_,len h0⟩) (fun y j h0 h1=>⟨_,src y j h0 h1⟩) (fun y j c h0 h1 h2 h3=>⟨_,top y j c h0 h1 h2 h3⟩) (fun y j c z d h0 h1 h2 h3 h4 h5=>⟨_,cut y j c z d h0 h1 h2 h3 h4 h5⟩) (fun y j c z h0 h1 h2 h3 h4=>⟨_,ok y j c z h0 h1 h2 h3 h4⟩)
 exact q
theorem opnA_len (m:List UInt8) (t:ByteArray):(opnA m t).1.length≤32:=by
 unfold opnA
 split
 ·exact Nat.zero_le _
 ·rename_i h
  split
  ·exact Nat.zero_le _
  ·split
   ·exact Nat.zero_le _
   ·rcases parAns_facts t with ⟨h1,_⟩ | ⟨_,h2,_⟩
    ·exact absurd h1 h
    ·exact unwA_len m h2
end Ref
def NewRP (m:ByteArray) (b g:Nat) (x:Src) (w:World) (e:Ending) (w':World):Prop:=∃ y k key pv,Ref.New m.data.toList x y k key∧e = .returned (.tuple #[pv,.int .i64 k])∧(k≠0→pv = .pointer none)∧(k=0→∃ rb,w.heap.size≤rb∧pv = .pointer (some ⟨rb,0,none⟩)∧RdRep rb b ⟨y,key,0,[],[],0⟩ w')∧SrcRep b g y w'∧w.grownBy w' (some b)
set_option maxRecDepth 100000 in
set_option maxHeartbeats 6400000 in
theorem newReader_any (m:ByteArray) (b g:Nat) (x:Src) (w:World) (ht:Tabs w) (hS:SrcRep b g x w) (hb2:2≤b):
  Calls Tryz.prog 29 #[.string m,.pointer (some ⟨b,0,none⟩)] w (NewRP m b g x w):=by
 by_cases hl:m.size=32
 ·have jl:((m.size:Int)==32)=true:=by rw[beq_iff_eq];omega
  have jl2:((m.size:Int) != 32)=false:=by simp only[bne,jl];rfl
  have HRH:=hide (readHeader_any b g x w hS)
  have HT:=hide ht
  have HXA:=hide hS.at_
  have HML:=hide (show m.data.toList.length=32 by rw[ba_len,hl])
  clear ht hS
  go_enter Tryz.func29,Tryz.ntmps29
  go_wp2_with fail
  refine HRH.out.mono ?_
  rintro e w1 ⟨y,j,c,hTop,rfl,hS1,hG1⟩
  have L:=hTop.left HXA.out
  have HTOP:=hide hTop
  have HS1:=hide hS1
  have HG1:=hide hG1
  have HT1:=hide (HT.out.grown hG1 hb2)
  have hj:=L.le (by decide)
  clear HRH hTop hS1 hG1 HT
  by_cases hc:c=2
  ·subst hc
   rw[if_pos rfl,if_pos rfl]
   clear L
   go_wp2
   refine bodyPost_ret (results_tmp2 rfl _ _ _) rfl ?_
   exact ⟨y,17,[],_,Ref.New.src y j HML.out HTOP.out,rfl,fun _=>rfl,fun h=>absurd h (by decide),HS1.out,HG1.out⟩
  ·rw[if_neg hc,if_neg hc]
   have htz:(topS x j).size≤1000:=by unfold topS;rw[ByteArray.size_extract];omega
   have HOH:=hide (openHeader_any m (topS x j) w1 HT1.out (by omega) htz)
   have hol:=Ref.opnA_len m.data.toList (topS x j)
   have HC:=hide hc
   have hya:=L.size
   have HN1:=hide (fun (h:(Ref.opnA m.data.toList (topS x j)).2≠0)=>Ref.New.top y j c HML.out HTOP.out HC.out h)
   have HN2:=hide (fun (h:(Ref.opnA m.data.toList (topS x j)).2=0) z d=>Ref.New.cut y j c z d HML.out HTOP.out HC.out h)
   have HN3:=hide (fun (h:(Ref.opnA m.data.toList (topS x j)).2=0) z=>Ref.New.ok y j c z HML.out HTOP.out HC.out h)
   generalize Ref.opnA m.data.toList (topS x j)=op at *
   generalize topS x j=tt at *
   obtain ⟨ot,oe⟩:=op
   simp only at HOH hol HN1 HN2 HN3
   clear hc htz L hj
   go_wp2_with fail
   refine HOH.out.mono ?_
   rintro e w2 ⟨rfl,hb2'⟩
   have HS2:=hide (SrcRep.after HS1.out hb2')
   have HG2:=hide (grown_below HG1.out hb2')
   have HT2:=hide (HT1.out.after hb2')
   clear HOH hb2' HS1 HG1 HT1
   by_cases ho:oe=0
   ·subst ho
    have HGA:=hide (gather_any b g y ⟨#[]⟩ 16 w2 HS2.out (by decide) (by decide))
    go_wp2_with fail
    refine HGA.out.mono ?_
    rintro e w3 ⟨z,d,hA,rfl,hS3,hG3⟩
    have L:=hA.left HS2.out.at_
    have HA:=hide hA
    have HS3:=hide hS3
    have HG3:=hide (grown_trans HG2.out hG3 (fun k hk=>.inr (by injection hk with hk;exact hk.symm)))
    have HT3:=hide (HT2.out.grown hG3 hb2)
    have hge:=L.ge
    have hsz:=L.size
    rw[L.s] at hsz
    have hgs:=gotS_size (got:=⟨#[]⟩) hge hsz
    have hz0:(⟨#[]⟩:ByteArray).size=0:=rfl
    have hcode:=L.code
    clear HGA hA hS3 hG3 HT2 HG2
    by_cases hd2:d=2
    ·subst hd2
     rw[if_pos rfl,if_pos rfl]
     clear L hgs
     go_wp2
     refine bodyPost_ret (results_tmp2 rfl _ _ _) rfl ?_
     exact ⟨z,17,[],_,HN2.out (by simp) z 2 HA.out (by decide),rfl,fun _=>rfl,fun h=>absurd h (by decide),HS3.out,HG3.out⟩
    ·rw[if_neg hd2,if_neg hd2]
     by_cases hd0:d=0
     ·subst hd0
      have hall:=L.all rfl
      have eg:gotS ⟨#[]⟩ y z=topS y 16:=ba_ext (by unfold gotS topS;rw[ba_list,hall];rfl)
      rw[eg] at hgs ⊢
      have j16:¬ ((topS y 16).size:Int)<16:=by omega
      have HKY:=hide (kKey_any ⟨ot.toArray⟩ (topS y 16) ⟨#[112,97,121,108,111,97,100]⟩ w3 (by rw[two_size];omega) (by omega) (by decide) HT3.out.k HT3.out.h HT3.out.two)
      rw[show (expO (macL (topS y 16).data.toList (⟨ot.toArray⟩:ByteArray).data.toList) (⟨#[112,97,121,108,111,97,100]⟩:ByteArray).data.toList 1).take 32=Ref.keyL ot (topS y 16).data.toList Ref.inBody from rfl] at HKY
      have HKL:=hide (Ref.keyL_len ot (topS y 16).data.toList Ref.inBody)
      have HNK:=hide (HN3.out (by simp) z HA.out)
      generalize Ref.keyL ot (topS y 16).data.toList Ref.inBody=ky at *
      generalize topS y 16=ty at *
      clear L eg hall hd2
      go_wp2_with fail
      refine HKY.out.mono ?_
      rintro e w4 ⟨rfl,hb4⟩
      have HS4:=hide (SrcRep.after HS3.out hb4)
      have HG4:=hide (grown_below HG3.out hb4)
      have hsz4:=HG4.out.size
      clear HKY hb4 HS3 HG3 HT3
      generalize hkb:(⟨ky.toArray⟩:ByteArray)=kb at *
      go_wp2
      refine bodyPost_ret (results_tmp2 rfl _ _ _) rfl ?_
      have hbA:Below w4.heap.size w4 (w4.alloc (.cells (rdCells (.pointer (some ⟨b,0,none⟩)) kb 0 ⟨#[]⟩ ⟨#[]⟩ 0).toArray 118)):=(Below.refl _ _).alloc (Nat.le_refl _) _
      refine ⟨z,0,ky,_,HNK.out,rfl,fun h=>absurd rfl h,fun _=>⟨w4.heap.size,hsz4,rfl,?_,fun _=>⟨HKL.out,Nat.zero_le _⟩,Nat.zero_le _⟩,SrcRep.after HS4.out hbA,grown_below HG4.out hbA⟩
      show Blk _ _ _ (rdCells _ ⟨ky.toArray⟩ 0 ⟨#[]⟩ ⟨#[]⟩ 0)
      rw[hkb]
      exact Blk.new rfl rfl
     ·obtain rfl:d=1:=by omega
      have ho:=L.over rfl
      have j16:((gotS ⟨#[]⟩ y z).size:Int)<16:=by omega
      generalize gotS ⟨#[]⟩ y z=gt at *
      clear L ho
      go_wp2
      refine bodyPost_ret (results_tmp2 rfl _ _ _) rfl ?_
      exact ⟨z,10,[],_,HN2.out (by simp) z 1 HA.out (by decide),rfl,fun _=>rfl,fun h=>absurd h (by decide),HS3.out,HG3.out⟩
   ·have z1:(oe != 0)=true:=by rw[bne_iff_ne];exact ho
    have HO:=hide ho
    generalize (⟨ot.toArray⟩:ByteArray)=ob at *
    clear ho hol
    go_wp2
    refine bodyPost_ret (results_tmp2 rfl _ _ _) rfl ?_
    exact ⟨y,oe,[],_,HN1.out HO.out,rfl,fun _=>rfl,fun h=>absurd h HO.out,HS2.out,HG2.out⟩
 ·have jl2:((m.size:Int) != 32)=true:=by rw[bne_iff_ne];omega
  have HL:=hide (show m.data.toList.length≠32 by rw[ba_len];exact hl)
  have HS:=hide hS
  clear hl hS ht
  go_enter Tryz.func29,Tryz.ntmps29
  go_wp2
  refine bodyPost_ret (results_tmp2 rfl _ _ _) rfl ?_
  exact ⟨x,1,[],_,Ref.New.len HL.out,rfl,fun _=>rfl,fun h=>absurd h (by decide),HS.out,World.grownBy.refl _ _⟩
set_option maxHeartbeats 400000 in
theorem sinkOf_nil (w:World):
  Calls Tryz.prog 21 #[.slice none 0 0] w fun e w'=>∃ b,e = .returned (.pointer (some ⟨b,0,none⟩))∧w.heap.size<b ∧
   Blk w' w.heap.size 3 (intV [])∧Blk w' b 96 [.string ⟨#[]⟩,.slice (some ⟨w.heap.size,0,none⟩) 0 0,.int .i64 0]∧Below w.heap.size w w':=by
 have hmk:∀ w,(Instr.makeSlice 75 (.int .i64 0) (.int .i64 0)).run Tryz.prog w = .ok (.slice (some ⟨w.heap.size,0,none⟩) 0 0) (w.alloc (.cells (intV (List.replicate 0 0)).toArray 3)):=fun w=>make_ints 0 (by decide) w
 go_enter Tryz.func21,Tryz.ntmps21
 go_wp2_with (refine wpList_copy_splice rfl (.tmp 7) (.tmp 8) 75 75 rfl 3 Tryz.underlying75 infoInt1 _ _ _ _ _ _ rfl rfl w.heap.size 0 (intV (List.replicate 0 0)) 3 ?_ (intV []) ?_ ?_ ?_ (intV_one _) w.heap.size w ?_ (Nat.le_refl _) ?_;exact Blk.new rfl rfl;rfl;(intro h;exact absurd h (by decide));(simp[intV]);exact (Below.refl _ _).alloc (Nat.le_refl _) _;intro w2 HB2 hbe2)
 go_ret
 have hB2:Blk w2 w.heap.size 3 (intV []):=HB2.out
 exact ⟨_,rfl,hB2.lt,hB2.alloc _,Blk.new rfl rfl,hbe2.alloc (Nat.le_of_lt hB2.lt) _⟩
def src0 (s:ByteArray):Src:=⟨s,[],0,0⟩
set_option maxHeartbeats 400000 in
theorem sourceOf_nil (text:ByteArray) (w:World) (hz:text.size≤1099511627776):
  Calls Tryz.prog 28 #[.string text,.slice none 0 0] w fun e w'=>∃ b,e = .returned (.pointer (some ⟨b,0,none⟩))∧w.heap.size<b∧SrcRep b w.heap.size (src0 text) w'∧Below w.heap.size w w':=by
 have hmk:∀ w,(Instr.makeSlice 75 (.int .i64 0) (.int .i64 0)).run Tryz.prog w = .ok (.slice (some ⟨w.heap.size,0,none⟩) 0 0) (w.alloc (.cells (intV (List.replicate 0 0)).toArray 3)):=fun w=>make_ints 0 (by decide) w
 have HZ:=hide hz
 clear hz
 go_enter Tryz.func28,Tryz.ntmps28
 go_wp2_with (refine wpList_copy_splice rfl (.tmp 9) (.tmp 10) 75 75 rfl 3 Tryz.underlying75 infoInt1 _ _ _ _ _ _ rfl rfl w.heap.size 0 (intV (List.replicate 0 0)) 3 ?_ (intV []) ?_ ?_ ?_ (intV_one _) w.heap.size w ?_ (Nat.le_refl _) ?_;exact Blk.new rfl rfl;rfl;(intro h;exact absurd h (by decide));(simp[intV]);exact (Below.refl _ _).alloc (Nat.le_refl _) _;intro w2 HB2 hbe2)
 go_ret
 have hB2:Blk w2 w.heap.size 3 (intV []):=HB2.out
 exact ⟨_,rfl,hB2.lt,⟨Blk.new rfl rfl,hB2.alloc _,HZ.out,Nat.zero_le _,by show 0≤_;decide,Nat.le_refl _⟩,hbe2.alloc (Nat.le_of_lt hB2.lt) _⟩
theorem New.src {m:List UInt8} {x y:Src} {k:Int} {key:List UInt8} (h:Ref.New m x y k key) (hx:x.at_≤x.s.size):y.s=x.s∧y.plan=x.plan∧x.at_≤y.at_∧y.at_≤y.s.size∧(k=0→key.length=32):=by
 cases h using Ref.New.elim with
 | len=>exact ⟨rfl,rfl,Nat.le_refl _,hx,fun h=>absurd h (by decide)⟩
 | src _ j _ ht=>
  have L:=ht.left hx
  exact ⟨L.s,L.plan,by have:=L.at_;omega,L.size,fun h=>absurd h (by decide)⟩
 | top _ j c _ ht _ ho=>
  have L:=ht.left hx
  exact ⟨L.s,L.plan,by have:=L.at_;omega,L.size,fun h=>absurd h ho⟩
 | cut y j c _ d _ ht _ _ ha hd=>
  have L:=ht.left hx
  have L2:=ha.left L.size
  exact ⟨L2.s.trans L.s,L2.plan.trans L.plan,by have:=L.at_;have:=L2.ge;omega,L2.size,fun h=>by split at h <;> exact absurd h (by decide)⟩
 | ok y j c _ _ ht _ _ ha=>
  have L:=ht.left hx
  have L2:=ha.left L.size
  exact ⟨L2.s.trans L.s,L2.plan.trans L.plan,by have:=L.at_;have:=L2.ge;omega,L2.size,fun _=>Ref.keyL_len _ _ _⟩
namespace Ref
def boxN (n:Nat):Nat:=(n+31)/32
def boxesL (body:List UInt8) (k:Nat):List ByteArray:=(List.range k).map fun i=>⟨(boxI body i).toArray⟩
theorem boxesL_succ (body:List UInt8) (k:Nat):boxesL body (k+1)=boxesL body k++[⟨(boxI body k).toArray⟩]:=by simp[boxesL,List.range_succ]
theorem boxesL_len (body:List UInt8) (k:Nat):(boxesL body k).length=k:=by simp[boxesL]
theorem boxesL_at (body:List UInt8) (k i:Nat) (hi:i<k):(boxesL body k).getD i ⟨#[]⟩=⟨(boxI body i).toArray⟩:=by
 rw[List.getD_eq_getElem?_getD,List.getElem?_eq_getElem (by rw[boxesL_len];exact hi)]
 simp[boxesL]
def chunkL (X:List UInt8) (i:Nat):List UInt8:=(X.drop (16*i)).take 16
theorem full_nums (n:Nat):16*full n≤n∧n≤16*full n+16∧(n+15)/16=(if n=0 then 0 else full n+1):=by
 unfold full
 split <;> omega
theorem box_len {key:List UInt8} (hk:key.length=32) (n:Nat) (last:Bool) (t:List UInt8):(box key n last t).length=t.length+16:=by
 unfold box
 rw[if_pos hk,Box.sealed_len]
theorem encB_len2 {key:List UInt8} (hk:key.length=32) (X:List UInt8):∀ k,16*k≤X.length→(encB key X k).length=32*k
 | 0,_=>rfl
 | k+1,h=>by
  rw[encB,List.length_append,encB_len2 hk X k (by omega),box_len hk,List.length_take,List.length_drop]
  omega
theorem encB_at {key:List UInt8} (hk:key.length=32) (X:List UInt8) (i:Nat):∀ k,i<k→16*k≤X.length→boxI (encB key X k) i=box key i false (chunkL X i)
 | 0,h,_=>absurd h (Nat.not_lt_zero _)
 | k+1,h,hx=>by
  have hl:=encB_len2 hk X k (by omega)
  have hb:(box key k false (chunkL X k)).length=32:=by
   rw[box_len hk]
   unfold chunkL
   rw[List.length_take,List.length_drop]
   omega
  rw[encB]
  show ((encB key X k++box key k false (chunkL X k)).drop (32*i)).take 32=_
  rcases Nat.lt_or_ge i k with h1 | h1
  ·rw[List.drop_append_of_le_length (by omega),List.take_append_of_le_length (by rw[List.length_drop];omega)]
   exact encB_at hk X i k h1 (by omega)
  ·obtain rfl:i=k:=by omega
   rw[←hl,List.drop_left,List.take_of_length_le (by omega)]
theorem encF_len {key:List UInt8} (hk:key.length=32) (X:List UInt8):(encF key X).length=32*full X.length+(X.length-16*full X.length)+16:=by
 have h:=full_nums X.length
 unfold encF
 rw[List.length_append,encB_len2 hk X _ h.1,box_len hk,List.length_drop]
 omega
theorem encF_boxN {key:List UInt8} (hk:key.length=32) (X:List UInt8):boxN (encF key X).length=full X.length+1:=by
 have h:=full_nums X.length
 unfold boxN
 rw[encF_len hk]
 omega
theorem encF_at {key:List UInt8} (hk:key.length=32) (X:List UInt8) (i:Nat) (hi:i<full X.length):boxI (encF key X) i=box key i false (chunkL X i):=by
 have h:=full_nums X.length
 have hl:=encB_len2 hk X _ h.1
 rw[←encB_at hk X i _ hi h.1]
 unfold encF boxI
 rw[List.drop_append_of_le_length (by omega),List.take_append_of_le_length (by rw[List.length_drop];omega)]
theorem encF_last {key:List UInt8} (hk:key.length=32) (X:List UInt8):(encF key X).drop (32*full X.length)=box key (full X.length) true (chunkL X (full X.length)):=by
 have h:=full_nums X.length
 have hl:=encB_len2 hk X _ h.1
 unfold encF chunkL
 rw[←hl,List.drop_left,List.take_of_length_le (by rw[List.length_drop];omega)]
theorem encF_box {key:List UInt8} (hk:key.length=32) (X:List UInt8) (i:Nat) (hi:i≤full X.length):boxI (encF key X) i=box key i (decide (i=full X.length)) (chunkL X i):=by
 rcases Nat.lt_or_ge i (full X.length) with h1 | h1
 ·rw[encF_at hk X i h1,decide_eq_false (by omega)]
 ·obtain rfl:i=full X.length:=by omega
  unfold boxI
  rw[encF_last hk,decide_eq_true rfl,List.take_of_length_le]
  rw[box_len hk]
  unfold chunkL
  rw[List.length_take]
  omega
theorem boxI_len (body:List UInt8) (i:Nat):(boxI body i).length≤32:=by unfold boxI;rw[List.length_take];omega
end Ref
theorem ext_left (d r:ByteArray) (a b:Nat) (h:b≤d.size):(d++r).extract a b=d.extract a b:=by
 apply ba_ext
 rw[sub_list,sub_list,ba_list]
 rcases Nat.lt_or_ge a d.size with h1 | h1
 ·rw[List.drop_append_of_le_length (by rw[ba_len];omega),List.take_append_of_le_length (by rw[List.length_drop,ba_len];omega)]
 ·rw[show b-a=0 by omega,List.take_zero,List.take_zero]
theorem cuts_left (d r:ByteArray) (n:Nat) (h:16*n≤d.size):cuts (d++r) 0 n=cuts d 0 n:=by
 unfold cuts
 apply List.map_congr_left
 intro i hi
 have:=List.mem_range.1 hi
 exact ext_left d r _ _ (by omega)
theorem file_left (l:List ByteArray) (d r:ByteArray) (h:d.size=16*(l.length+2)) (X:List UInt8):Ref.fkey l (d++r) 0=Ref.fkey l d 0∧Ref.pdraw l (d++r) 0=Ref.pdraw l d 0∧Ref.pkey l (d++r) 0=Ref.pkey l d 0∧Ref.head l (d++r) 0=Ref.head l d 0∧Ref.file l (d++r) 0 X=Ref.file l d 0 X:=by
 have e1:Ref.fkey l (d++r) 0=Ref.fkey l d 0:=ext_left d r _ _ (by omega)
 have e2:Ref.pdraw l (d++r) 0=Ref.pdraw l d 0:=ext_left d r _ _ (by omega)
 have e3:Ref.pkey l (d++r) 0=Ref.pkey l d 0:=by unfold Ref.pkey;rw[e1,e2]
 have e4:Ref.head l (d++r) 0=Ref.head l d 0:=by unfold Ref.head;rw[e1,cuts_left d r _ (by omega)]
 exact ⟨e1,e2,e3,e4,by unfold Ref.file;rw[e2,e3,e4]⟩
theorem ext_min (t:ByteArray) (a b:Nat):t.extract a (min b t.size)=t.extract a b:=by
 apply ba_ext
 rw[sub_list,sub_list]
 rcases Nat.le_total b t.size with h | h
 ·rw[Nat.min_eq_left h]
 ·rw[Nat.min_eq_right h,List.take_of_length_le (by rw[List.length_drop,ba_len];exact Nat.le_refl _),List.take_of_length_le (by rw[List.length_drop,ba_len];omega)]
theorem ext_void (t:ByteArray) (a b:Nat) (h:min b t.size≤a):t.extract a b=⟨#[]⟩:=by
 rw[←ext_min]
 exact ba_ext (by rw[sub_list,show min b t.size-a=0 by omega];rfl)
set_option maxHeartbeats 800000 in
theorem between_any (t:ByteArray) (a b:Nat) (w:World):
  Calls Tryz.prog 111 #[.string t,.int .i64 (a:Nat),.int .i64 (b:Nat)] w fun e w'=>e = .returned (.string (t.extract a b))∧w'=w:=by
 have j0:¬ (a:Int)<0:=by omega
 by_cases hbt:t.size<b
 ·have j1:(t.size:Int)<(b:Int):=by omega
  have HM:=hide (show t.extract a b=t.extract a t.size by rw[←ext_min,Nat.min_eq_right (by omega)])
  by_cases hab:a<t.size
  ·have j2:¬ (t.size:Int)≤(a:Int):=by omega
   have j3:(a:Int)≤(t.size:Int):=by omega
   go_enter Tryz.func111,Tryz.ntmps111
   go_wp2
   go_ret
   exact ⟨by rw[HM.out];rfl,rfl⟩
  ·have j2:(t.size:Int)≤(a:Int):=by omega
   have HV:=hide (ext_void t a b (by omega))
   clear HM
   go_enter Tryz.func111,Tryz.ntmps111
   go_wp2
   go_ret
   exact ⟨by rw[HV.out];rfl,rfl⟩
 ·have j1:¬ (t.size:Int)<(b:Int):=by omega
  by_cases hab:a<b
  ·have j2:¬ (b:Int)≤(a:Int):=by omega
   have j3:(a:Int)≤(b:Int):=by omega
   have j4:(b:Int)≤(t.size:Int):=by omega
   go_enter Tryz.func111,Tryz.ntmps111
   go_wp2
   go_ret
   exact ⟨rfl,rfl⟩
  ·have j2:(b:Int)≤(a:Int):=by omega
   have HV:=hide (ext_void t a b (by omega))
   go_enter Tryz.func111,Tryz.ntmps111
   go_wp2
   go_ret
   exact ⟨by rw[HV.out];rfl,rfl⟩
def atCells (key chunks:ByteArray) (size:Nat):List Value:=[.string key,.string chunks,.int .i64 (size:Nat)]
set_option maxRecDepth 100000 in
set_option maxHeartbeats 1600000 in
theorem atOpen_any (ab:Nat) (key chunks:ByteArray) (size n:Nat) (w:World) (hB:Blk w ab 129 (atCells key chunks size)) (hk:key.size=32) (hn:n≤35184372088832):
  Calls Tryz.prog 72 #[.pointer (some ⟨ab,0,none⟩),.int .i64 (n:Nat)] w fun e w'=>e = .returned (ansV (Ref.opnI key.data.toList chunks.data.toList n))∧Below w.heap.size w w':=by
 obtain ⟨p,hp⟩:∃ p:Nat,p=n*32:=⟨_,rfl⟩
 obtain ⟨q,hq⟩:∃ q:Nat,q=p+32:=⟨_,rfl⟩
 have t1:(n:Int)*32=(p:Int):=by omega
 have t2:(p:Int)+32=(q:Int):=by omega
 have tw1:wrap64 (p:Int)=(p:Int):=IntWalk.wrap64_in _ (by omega)
 have tw2:wrap64 (q:Int)=(q:Int):=IntWalk.wrap64_in _ (by omega)
 have tm:(n:Int)%18446744073709551616=(n:Int):=by omega
 have hxz:(chunks.extract p q).size≤32:=by rw[ByteArray.size_extract];omega
 have HBT:=hide (fun w=>between_any chunks p q w)
 have hbl:(chunks.extract p q).data.toList=Ref.boxI chunks.data.toList n:=by
  unfold Ref.boxI
  rw[sub_list,hq,Nat.add_sub_cancel_left,hp,Nat.mul_comm]
 have HOC:=hide (fun w=>openChunk_any key n (decide (chunks.size≤q)) (chunks.extract p q) w hk (by omega) (by omega))
 rw[hbl] at HOC
 have hdq:decide (chunks.size≤q)=decide (chunks.data.toList.length≤32*n+32):=by rw[ba_len,hq,hp,Nat.mul_comm]
 have HRS:=hide (show Ref.opnI key.data.toList chunks.data.toList n=Ref.opnC key.data.toList n (decide (chunks.size≤q)) (Ref.boxI chunks.data.toList n) by unfold Ref.opnI;rw[hdq])
 rw[HRS.out]
 unfold ansV at HOC ⊢
 have c0:=hB.cell (i:=0) rfl
 have c1:=hB.cell (i:=1) rfl
 generalize Ref.opnC key.data.toList n (decide (chunks.size≤q)) (Ref.boxI chunks.data.toList n)=op at *
 generalize chunks.extract p q=bx at *
 clear hB hk hn hp hq hbl hdq hxz HRS
 go_enter Tryz.func72,Tryz.ntmps72
 go_wp2_with fail
 refine (HBT.out _).mono ?_
 rintro e w1 ⟨rfl,rfl⟩
 clear HBT
 go_wp2_with fail
 refine (HOC.out _).mono ?_
 rintro e w2 ⟨rfl,be2⟩
 have B2:=hide be2
 clear HOC be2
 go_wp2
 refine bodyPost_ret (results_tmp2 rfl _ _ _) rfl ?_
 exact ⟨rfl,B2.out⟩
namespace Ref
def upTo (a b:Nat):Nat:=min (16*(a/16)+16) b
def Spn (key:List UInt8) (body:List UInt8) (b:Nat) (i0:Nat) (i1:List UInt8) (i2:List UInt8 × Int):Prop:=∀ P:Nat→List UInt8→List UInt8 × Int→Prop,(∀ (a:Nat) (acc:List UInt8),b≤a→P a acc (acc,0))→(∀ (a:Nat) (acc:List UInt8),a<b→(opnI key body (a/16)).2≠0→P a acc (acc,(opnI key body (a/16)).2))→(∀ (a:Nat) (acc:List UInt8) (r:List UInt8 × Int),a<b→(opnI key body (a/16)).2=0→P (upTo a b) (acc++((opnI key body (a/16)).1.drop (a-16*(a/16))).take (upTo a b-a)) r→P a acc r)→P i0 i1 i2
theorem Spn.done {key:List UInt8} {body:List UInt8} {b:Nat} (a:Nat) (acc:List UInt8) (h0:b≤a):Spn key body b a acc (acc,0):=fun _ c0 _ _=>c0 a acc h0
theorem Spn.bad {key:List UInt8} {body:List UInt8} {b:Nat} (a:Nat) (acc:List UInt8) (h0:a<b) (h1:(opnI key body (a/16)).2≠0):Spn key body b a acc (acc,(opnI key body (a/16)).2):=fun _ _ c1 _=>c1 a acc h0 h1
theorem Spn.more {key:List UInt8} {body:List UInt8} {b:Nat} (a:Nat) (acc:List UInt8) (r:List UInt8 × Int) (h0:a<b) (h1:(opnI key body (a/16)).2=0) (h2:Spn key body b (upTo a b) (acc++((opnI key body (a/16)).1.drop (a-16*(a/16))).take (upTo a b-a)) r):Spn key body b a acc r:=fun P c0 c1 c2=>c2 a acc r h0 h1 (h2 P c0 c1 c2)
theorem Spn.ind {key:List UInt8} {body:List UInt8} {b:Nat} {motive:∀ i0 i1 i2,Spn key body b i0 i1 i2→Prop} (done:∀ a acc h0,motive _ _ _ (Spn.done a acc h0)) (bad:∀ a acc h0 h1,motive _ _ _ (Spn.bad a acc h0 h1)) (more:∀ a acc r h0 h1 h2,motive _ _ _ h2→motive _ _ _ (Spn.more a acc r h0 h1 h2)) {i0 i1 i2} (h:Spn key body b i0 i1 i2):motive _ _ _ h:=by
 obtain ⟨_,q⟩:=h (fun i0 i1 i2=>∃ h,motive i0 i1 i2 h) (fun a acc h0=>⟨_,done a acc h0⟩) (fun a acc h0 h1=>⟨_,bad a acc h0 h1⟩) (fun a acc r h0 h1 h2=>h2.elim fun h2 q2=>⟨_,more a acc r h0 h1 h2 q2⟩)
 exact q
theorem Spn.elim {key:List UInt8} {body:List UInt8} {b:Nat} {motive:∀ i0 i1 i2,Spn key body b i0 i1 i2→Prop} (done:∀ a acc h0,motive _ _ _ (Spn.done a acc h0)) (bad:∀ a acc h0 h1,motive _ _ _ (Spn.bad a acc h0 h1)) (more:∀ a acc r h0 h1 h2,motive _ _ _ (Spn.more a acc r h0 h1 h2)) {i0 i1 i2} (h:Spn key body b i0 i1 i2):motive _ _ _ h:=Spn.ind done bad (fun a acc r h0 h1 h2 _=>more a acc r h0 h1 h2) h
theorem upTo_nums (a b:Nat) (h:a<b):a<upTo a b∧upTo a b≤b∧upTo a b≤a+16:=by unfold upTo;omega
end Ref
theorem wrapN (n:Nat) (h:n≤9223372036854775807):wrap64 (n:Int)=(n:Int):=IntWalk.wrap64_in _ (by omega)
theorem spn_nums (a b:Nat) (h:a<b) (hb:b≤35184372088832):∃ p q en x1 x2:Nat,(a:Int)/16*16=(p:Int)∧(p:Int)+16=(q:Int)∧(a:Int)-(p:Int)=(x1:Int)∧(en:Int)-(p:Int)=(x2:Int)∧wrap64 (p:Int)=(p:Int)∧wrap64 (q:Int)=(q:Int)∧wrap64 (x1:Int)=(x1:Int)∧wrap64 (x2:Int)=(x2:Int)∧Ref.upTo a b=en∧(a<en∧en≤b∧en≤a+16)∧(b<q→en=b)∧(¬ b<q→en=q)∧x2-x1=en-a∧a-16*(a/16)=x1:=by
 refine ⟨a/16*16,a/16*16+16,Ref.upTo a b,a-a/16*16,Ref.upTo a b-a/16*16,?_⟩
 have hu:=Ref.upTo_nums a b h
 have hd:Ref.upTo a b=min (16*(a/16)+16) b:=rfl
 generalize Ref.upTo a b=en at *
 refine ⟨by omega,by omega,by omega,by omega,wrapN _ (by omega),wrapN _ (by omega),wrapN _ (by omega),wrapN _ (by omega),rfl,hu,by omega,by omega,by omega,by omega⟩
theorem span_len {x a p en b:Nat} (h1:x≤a) (h2:p≤en-a) (h3:a<en) (h4:en≤b) (h5:b≤35184372088832):x+p≤140737488355328∧a<en∧en≤b∧x+p≤en∧en≤35184372088832:=by omega
def SpnR (w:World) (ab:Nat) (key chunks:ByteArray) (size a0 b:Nat) (va vo:Value) (wr:World):Prop:=∃ (a g cap:Nat) (acc:List UInt8),
 va = .int .i64 (a:Nat)∧a≤35184372088832∧acc.length≤a∧vo = .slice (some ⟨g,0,none⟩) acc.length cap∧Row wr w.heap.size 5 1 vo acc.length (u8L acc)∧Below w.heap.size w wr∧Blk wr ab 129 (atCells key chunks size)∧(∀ r,Ref.Spn key.data.toList chunks.data.toList b a acc r→Ref.Spn key.data.toList chunks.data.toList b a0 [] r)
set_option maxRecDepth 100000 in
set_option maxHeartbeats 600000 in
theorem span_any (ab:Nat) (key chunks:ByteArray) (size a0 b:Nat) (w:World) (hB:Blk w ab 129 (atCells key chunks size)) (hk:key.size=32) (ha:a0≤35184372088832) (hb:b≤35184372088832):
  Calls Tryz.prog 73 #[.pointer (some ⟨ab,0,none⟩),.int .i64 (a0:Nat),.int .i64 (b:Nat)] w fun e w'=>∃ r,Ref.Spn key.data.toList chunks.data.toList b a0 [] r∧e = .returned (ansV r)∧Below w.heap.size w w':=by
 have hal:=hB.lt
 have hbA:Below w.heap.size w (w.alloc (.cells #[] 5)):=(Below.refl _ _).alloc (Nat.le_refl _) _
 have H0:=hide (show SpnR w ab key chunks size a0 b (.int .i64 (a0:Nat)) (.slice (some ⟨w.heap.size,0,none⟩) 0 0) (w.alloc (.cells #[] 5)) from
  ⟨a0,w.heap.size,0,[],rfl,ha,Nat.zero_le _,rfl,Row.empty _ _ (heap_alloc_new _ _) _ (Nat.le_refl _),hbA,hB.below hbA hal,fun r h=>h⟩)
 clear hbA hB
 go_enter Tryz.func73,Tryz.ntmps73
 go_wp2
 go_loopw [1,8] (fun va vo wr=>SpnR w ab key chunks size a0 b va vo wr) (fun va _ _=>b-(intOf va).toNat)
 case atStart=>exact H0.out
 case round=>
  clear H0
  obtain ⟨a,g,cap,acc,rfl,ha2,hacc,rfl,hrow,hbe,hB,hmore⟩:=hrel
  have HROW:=hide hrow
  have HBE:=hide hbe
  have HB:=hide hB
  have hsz:=hbe.size
  have hgl:w.heap.size≤g∧g<wr.heap.size:=hrow.lt g rfl
  obtain ⟨ao3,cap3,e3,hd3,hd4,hcv⟩:=Row.strAny hrow
  injection e3 with e3a e3b e3c
  subst e3a
  subst e3c
  clear e3b hd3 hd4
  have HM:=hide hmore
  clear hmore hrow hbe hB
  by_cases hlt:a<b
  ·have jl:(a:Int)<(b:Int):=by omega
   obtain ⟨i,hi⟩:∃ i:Nat,i=a/16:=⟨_,rfl⟩
   have td:(a:Int).tdiv 16=(i:Int):=by rw[Int.tdiv_eq_ediv_of_nonneg (by omega)];omega
   have HOP:=hide (atOpen_any ab key chunks size i wr HB.out hk (by omega))
   have HM1:=hide (fun (h:(Ref.opnI key.data.toList chunks.data.toList i).2≠0)=>HM.out _ (Ref.Spn.bad a acc hlt (by rw[←hi];exact h)))
   have HM2:=hide (fun (h:(Ref.opnI key.data.toList chunks.data.toList i).2=0) r=>HM.out r ∘ Ref.Spn.more a acc r hlt (by rw[←hi];exact h))
   rw[←hi] at HM1 HM2
   unfold ansV at HOP
   generalize Ref.opnI key.data.toList chunks.data.toList i=op at *
   obtain ⟨ot,oe⟩:=op
   have hun:=Ref.upTo_nums a b hlt
   have hud:Ref.upTo a b=min (16*i+16) b:=by unfold Ref.upTo;rw[hi]
   have HLT:=hide hlt
   have HI:=hide hi
   have hai:((i:Nat):Int)=(a:Int)/16:=by omega
   rw[hai] at HOP
   have HAI:=hide hai
   have HUN:=hide (And.intro hun hud)
   clear HM hlt hi hun hud hai td
   go_wp2_with fail
   refine HOP.out.mono ?_
   rintro e w1 ⟨rfl,be1⟩
   have HR1:=hide (Row.after HROW.out be1)
   have HBE1:=hide (HBE.out.trans (be1.mono hsz))
   have HB1:=hide (HB.out.below be1 HB.out.lt)
   have hsz1:w.heap.size≤w1.heap.size:=HBE1.out.size
   have hcv1:=hcv
   clear HOP HROW HBE HB hcv
   rw[←HAI.out]
   by_cases hoe:oe=0
   ·subst hoe
    obtain ⟨p,q,en,x1,x2,t1,t2,t3,t4,tw1,tw2,tw3,tw4,hen,hea,hq1,hq2,hx,hxa⟩:=spn_nums a b HLT.out hb
    rw[←HAI.out] at t1
    clear HAI tw1 tw2 tw3 tw4
    have HBT:=hide (fun w=>between_any ⟨ot.toArray⟩ x1 x2 w)
    obtain ⟨pc,hpc⟩:∃ x,(⟨ot.toArray⟩:ByteArray).extract x1 x2=x:=⟨_,rfl⟩
    rw[hpc] at HBT
    have hpz:pc.size≤en-a:=by
     rw[←hpc,ByteArray.size_extract,←hx]
     exact Nat.sub_le_sub_right (Nat.min_le_left _ _) _
    have hpl:pc.data.toList=(ot.drop (a-16*i)).take (en-a):=by
     rw[←hpc,sub_list,hx,HI.out,hxa]
    obtain ⟨hN2,hEN⟩:=span_len hacc hpz hea.1 hea.2.1 hb
    have HPL:=hide hpl
    have HNX:=hide (HM2.out rfl)
    rw[hen,HI.out,←HI.out] at HNX
    change Hid (∀ r,Ref.Spn key.data.toList chunks.data.toList b en (acc++(ot.drop (a-16*i)).take (en-a)) r→_) at HNX
    rw[←hpl] at HNX
    have HEN:=hide hEN
    clear hpl hpc HM1 HM2 hcv1 hEN
    generalize (⟨ot.toArray⟩:ByteArray)=tb at *
    by_cases hqb:b<q
    ·have jq:(b:Int)<(q:Int):=Int.ofNat_lt.2 hqb
     obtain rfl:=hq1 hqb
     clear HUN hen hx hxa HI hpz hea hq1 hq2
     go_wp2_with fail
     refine (HBT.out _).mono ?_
     rintro e w2 ⟨rfl,rfl⟩
     clear HBT
     go_wp2_with (at_builtin;refine wpList_append_text rfl (.tmp 48) (.tmp 49) rfl w.heap.size g cap acc.length _ rfl HR1.out pc rfl hN2 hsz1 ?_;intro g5 cap5 w5 hr5 hg5)
     go_roundw
     case rel=>
      obtain ⟨k1,k2,k3,k4⟩:=HEN.out
      have hl:(acc++pc.data.toList).length=acc.length+pc.size:=by rw[List.length_append,ba_len]
      refine ⟨en,g5,cap5,acc++pc.data.toList,rfl,k4,by rw[hl];exact k3,by rw[hl],by rw[hl];exact hr5,HBE1.out.trans (RowKit.Below.of_grown hg5 hgl.1 HBE1.out.size),HB1.out.grown hg5 (fun e=>by injection e with e;omega),fun r h=>HNX.out r h⟩
     case measure=>have:=HEN.out;simp[intOf];omega
    ·have jq:¬ (b:Int)<(q:Int):=fun h=>hqb (Int.ofNat_lt.1 h)
     obtain rfl:=hq2 hqb
     clear HUN hen hx hxa HI hpz hea hq1 hq2
     go_wp2_with fail
     refine (HBT.out _).mono ?_
     rintro e w2 ⟨rfl,rfl⟩
     clear HBT
     go_wp2_with (at_builtin;refine wpList_append_text rfl (.tmp 48) (.tmp 49) rfl w.heap.size g cap acc.length _ rfl HR1.out pc rfl hN2 hsz1 ?_;intro g5 cap5 w5 hr5 hg5)
     go_roundw
     case rel=>
      obtain ⟨k1,k2,k3,k4⟩:=HEN.out
      have hl:(acc++pc.data.toList).length=acc.length+pc.size:=by rw[List.length_append,ba_len]
      refine ⟨en,g5,cap5,acc++pc.data.toList,rfl,k4,by rw[hl];exact k3,by rw[hl],by rw[hl];exact hr5,HBE1.out.trans (RowKit.Below.of_grown hg5 hgl.1 HBE1.out.size),HB1.out.grown hg5 (fun e=>by injection e with e;omega),fun r h=>HNX.out r h⟩
     case measure=>have:=HEN.out;simp[intOf];omega
   ·have z1:(oe != 0)=true:=by rw[bne_iff_ne];exact hoe
    have HRS:=hide (HM1.out hoe)
    have hcv2:=(Row.strAny HR1.out)
    obtain ⟨ao4,cap4,e4,hd5,hd6,hcv4⟩:=hcv2
    injection e4 with e4a e4b e4c
    subst e4a
    subst e4c
    generalize (⟨ot.toArray⟩:ByteArray)=tb at *
    clear HM1 HM2 hoe HUN HI hcv1 e4b hd5 hd6
    go_wp2
    refine bodyPost_ret (results_tmp2 rfl _ _ _) rfl ?_
    exact ⟨(acc,oe),HRS.out,rfl,HBE1.out⟩
  ·have jl:¬ (a:Int)<(b:Int):=by omega
   have HRS:=hide (HM.out _ (Ref.Spn.done a acc (by omega)))
   clear HM hlt
   go_wp2
   refine bodyPost_ret (results_tmp2 rfl _ _ _) rfl ?_
   exact ⟨acc,0,HRS.out,rfl,HBE.out⟩
def AtN (m:List UInt8) (file:ByteArray) (i0:Int) (i1:List UInt8) (i2:ByteArray) (i3:Nat):Prop:=∀ P:Int→List UInt8→ByteArray→Nat→Prop,(∀ (y:Src) (k:Int) (key:List UInt8),Ref.New m (src0 file) y k key→k≠0→P k [] ⟨#[]⟩ 0)→(∀ (y:Src) (key:List UInt8),Ref.New m (src0 file) y 0 key→file.size≤y.at_→P 10 [] ⟨#[]⟩ 0)→(∀ (y:Src) (key:List UInt8),Ref.New m (src0 file) y 0 key→y.at_<file.size→(Ref.opnI key (file.extract y.at_ file.size).data.toList ((file.size-y.at_-1)/32)).2≠0→P (Ref.opnI key (file.extract y.at_ file.size).data.toList ((file.size-y.at_-1)/32)).2 [] ⟨#[]⟩ 0)→(∀ (y:Src) (key:List UInt8),Ref.New m (src0 file) y 0 key→y.at_<file.size→(Ref.opnI key (file.extract y.at_ file.size).data.toList ((file.size-y.at_-1)/32)).2=0→P 0 key (file.extract y.at_ file.size) (16*((file.size-y.at_-1)/32)+(Ref.opnI key (file.extract y.at_ file.size).data.toList ((file.size-y.at_-1)/32)).1.length))→P i0 i1 i2 i3
theorem AtN.bad {m:List UInt8} {file:ByteArray} (y:Src) (k:Int) (key:List UInt8) (h0:Ref.New m (src0 file) y k key) (h1:k≠0):AtN m file k [] ⟨#[]⟩ 0:=fun _ c0 _ _ _=>c0 y k key h0 h1
theorem AtN.cut {m:List UInt8} {file:ByteArray} (y:Src) (key:List UInt8) (h0:Ref.New m (src0 file) y 0 key) (h1:file.size≤y.at_):AtN m file 10 [] ⟨#[]⟩ 0:=fun _ _ c1 _ _=>c1 y key h0 h1
theorem AtN.last {m:List UInt8} {file:ByteArray} (y:Src) (key:List UInt8) (h0:Ref.New m (src0 file) y 0 key) (h1:y.at_<file.size) (h2:(Ref.opnI key (file.extract y.at_ file.size).data.toList ((file.size-y.at_-1)/32)).2≠0):AtN m file (Ref.opnI key (file.extract y.at_ file.size).data.toList ((file.size-y.at_-1)/32)).2 [] ⟨#[]⟩ 0:=fun _ _ _ c2 _=>c2 y key h0 h1 h2
theorem AtN.ok {m:List UInt8} {file:ByteArray} (y:Src) (key:List UInt8) (h0:Ref.New m (src0 file) y 0 key) (h1:y.at_<file.size) (h2:(Ref.opnI key (file.extract y.at_ file.size).data.toList ((file.size-y.at_-1)/32)).2=0):AtN m file 0 key (file.extract y.at_ file.size) (16*((file.size-y.at_-1)/32)+(Ref.opnI key (file.extract y.at_ file.size).data.toList ((file.size-y.at_-1)/32)).1.length):=fun _ _ _ _ c3=>c3 y key h0 h1 h2
theorem AtN.elim {m:List UInt8} {file:ByteArray} {motive:∀ i0 i1 i2 i3,AtN m file i0 i1 i2 i3→Prop} (bad:∀ y k key h0 h1,motive _ _ _ _ (AtN.bad y k key h0 h1)) (cut:∀ y key h0 h1,motive _ _ _ _ (AtN.cut y key h0 h1)) (last:∀ y key h0 h1 h2,motive _ _ _ _ (AtN.last y key h0 h1 h2)) (ok:∀ y key h0 h1 h2,motive _ _ _ _ (AtN.ok y key h0 h1 h2)) {i0 i1 i2 i3} (h:AtN m file i0 i1 i2 i3):motive _ _ _ _ h:=by
 obtain ⟨_,q⟩:=h (fun i0 i1 i2 i3=>∃ h,motive i0 i1 i2 i3 h) (fun y k key h0 h1=>⟨_,bad y k key h0 h1⟩) (fun y key h0 h1=>⟨_,cut y key h0 h1⟩) (fun y key h0 h1 h2=>⟨_,last y key h0 h1 h2⟩) (fun y key h0 h1 h2=>⟨_,ok y key h0 h1 h2⟩)
 exact q
theorem opnI_len (key body:List UInt8) (i:Nat):(Ref.opnI key body i).1.length≤32:=by
 unfold Ref.opnI
 have hb:=Ref.boxI_len body i
 rcases Ref.opnC_cases key i (decide (body.length≤32*i+32)) (Ref.boxI body i) with ⟨_,h,_⟩ | ⟨_,h⟩
 ·omega
 ·rw[h];exact Nat.zero_le _
set_option maxHeartbeats 400000 in
theorem srcPlace_any (b g:Nat) (x:Src) (w:World) (h:SrcRep b g x w):
  Calls Tryz.prog 37 #[.pointer (some ⟨b,0,none⟩)] w fun e w'=>e = .returned (.int .i64 (x.at_:Nat))∧w'=w:=by
 have c:w.cell? ⟨b,1,none⟩=some (.int .i64 ((x.at_:Nat):Int)):=h.hb.cell (i:=1) rfl
 clear h
 go_enter Tryz.func37,Tryz.ntmps37
 go_wp2
 go_ret
 exact ⟨rfl,rfl⟩
set_option maxHeartbeats 400000 in
theorem atSize_any (ab:Nat) (key ch:ByteArray) (size:Nat) (w:World) (hB:Blk w ab 129 (atCells key ch size)):
  Calls Tryz.prog 39 #[.pointer (some ⟨ab,0,none⟩)] w fun e w'=>e = .returned (.int .i64 (size:Nat))∧w'=w:=by
 have c:=hB.cell (i:=2) rfl
 clear hB
 go_enter Tryz.func39,Tryz.ntmps39
 go_wp2
 go_ret
 exact ⟨rfl,rfl⟩
def AtRd (key:List UInt8) (body:List UInt8) (size:Nat) (n:Int) (off:Int) (i0:List UInt8 × Int):Prop:=∀ P:List UInt8 × Int→Prop,(n<0∨off<0→P ([],2))→(0≤n→0≤off→(size:Int)<off→P ([],13))→(∀ (r:List UInt8 × Int),0≤n→0≤off→off+n≤(size:Int)→Ref.Spn key body (off.toNat+n.toNat) off.toNat [] r→P r)→(∀ (r:List UInt8 × Int),0≤n→0≤off→off≤(size:Int)→(size:Int)<off+n→Ref.Spn key body size off.toNat [] r→P (if r.2≠0 then r else (r.1,13)))→P i0
theorem AtRd.arg {key:List UInt8} {body:List UInt8} {size:Nat} {n:Int} {off:Int} (h0:n<0∨off<0):AtRd key body size n off ([],2):=fun _ c0 _ _ _=>c0 h0
theorem AtRd.over {key:List UInt8} {body:List UInt8} {size:Nat} {n:Int} {off:Int} (h0:0≤n) (h1:0≤off) (h2:(size:Int)<off):AtRd key body size n off ([],13):=fun _ _ c1 _ _=>c1 h0 h1 h2
theorem AtRd.all {key:List UInt8} {body:List UInt8} {size:Nat} {n:Int} {off:Int} (r:List UInt8 × Int) (h0:0≤n) (h1:0≤off) (h2:off+n≤(size:Int)) (h3:Ref.Spn key body (off.toNat+n.toNat) off.toNat [] r):AtRd key body size n off r:=fun _ _ _ c2 _=>c2 r h0 h1 h2 h3
theorem AtRd.some {key:List UInt8} {body:List UInt8} {size:Nat} {n:Int} {off:Int} (r:List UInt8 × Int) (h0:0≤n) (h1:0≤off) (h2:off≤(size:Int)) (h3:(size:Int)<off+n) (h4:Ref.Spn key body size off.toNat [] r):AtRd key body size n off (if r.2≠0 then r else (r.1,13)):=fun _ _ _ _ c3=>c3 r h0 h1 h2 h3 h4
theorem AtRd.elim {key:List UInt8} {body:List UInt8} {size:Nat} {n:Int} {off:Int} {motive:∀ i0,AtRd key body size n off i0→Prop} (arg:∀ h0,motive _ (AtRd.arg h0)) (over:∀ h0 h1 h2,motive _ (AtRd.over h0 h1 h2)) (all:∀ r h0 h1 h2 h3,motive _ (AtRd.all r h0 h1 h2 h3)) (some:∀ r h0 h1 h2 h3 h4,motive _ (AtRd.some r h0 h1 h2 h3 h4)) {i0} (h:AtRd key body size n off i0):motive _ h:=by
 obtain ⟨_,q⟩:=h (fun i0=>∃ h,motive i0 h) (fun h0=>⟨_,arg h0⟩) (fun h0 h1 h2=>⟨_,over h0 h1 h2⟩) (fun r h0 h1 h2 h3=>⟨_,all r h0 h1 h2 h3⟩) (fun r h0 h1 h2 h3 h4=>⟨_,some r h0 h1 h2 h3 h4⟩)
 exact q
set_option maxRecDepth 100000 in
set_option maxHeartbeats 1600000 in
theorem atRead_any (ab:Nat) (key ch:ByteArray) (size:Nat) (n off:Int) (w:World) (hB:Blk w ab 129 (atCells key ch size)) (hk:key.size=32) (hsz:size≤1099511627776) (n1 : -9223372036854775808≤n) (n2:n≤9223372036854775807) (o1 : -9223372036854775808≤off) (o2:off≤9223372036854775807):
  Calls Tryz.prog 40 #[.pointer (some ⟨ab,0,none⟩),.int .i64 n,.int .i64 off] w fun e w'=>∃ r,AtRd key.data.toList ch.data.toList size n off r∧e = .returned (ansV r)∧Below w.heap.size w w':=by
 by_cases hn:n<0
 ·have HR:=hide (AtRd.arg (key:=key.data.toList) (body:=ch.data.toList) (size:=size) (n:=n) (off:=off) (.inl hn))
  clear hB hk
  go_enter Tryz.func40,Tryz.ntmps40
  go_wp2
  refine bodyPost_ret (results_tmp2 rfl _ _ _) rfl ?_
  first | exact ⟨([],2),HR.out,rfl,Below.refl _ _⟩ | exact ⟨[],2,HR.out,rfl,Below.refl _ _⟩
 ·have zn:decide (n<0)=false:=decide_eq_false hn
  by_cases ho:off<0
  ·have HR:=hide (AtRd.arg (key:=key.data.toList) (body:=ch.data.toList) (size:=size) (n:=n) (off:=off) (.inr ho))
   clear hB hk
   go_enter Tryz.func40,Tryz.ntmps40
   go_wp2
   refine bodyPost_ret (results_tmp2 rfl _ _ _) rfl ?_
   first | exact ⟨([],2),HR.out,rfl,Below.refl _ _⟩ | exact ⟨[],2,HR.out,rfl,Below.refl _ _⟩
  ·have zo:decide (off<0)=false:=decide_eq_false ho
   obtain ⟨N,rfl⟩:∃ N:Nat,n=(N:Int):=⟨n.toNat,by omega⟩
   obtain ⟨O,rfl⟩:∃ O:Nat,off=(O:Int):=⟨off.toNat,by omega⟩
   have c2:=hB.cell (i:=2) rfl
   by_cases h1:size<O
   ·have j1:(size:Int)<(O:Int):=by omega
    have HR:=hide (AtRd.over (key:=key.data.toList) (body:=ch.data.toList) (size:=size) (n:=(N:Int)) (off:=(O:Int)) (by omega) (by omega) j1)
    clear hB hk n1 n2 o1 o2 hn ho
    go_enter Tryz.func40,Tryz.ntmps40
    go_wp2
    refine bodyPost_ret (results_tmp2 rfl _ _ _) rfl ?_
    first | exact ⟨([],13),HR.out,rfl,Below.refl _ _⟩ | exact ⟨[],13,HR.out,rfl,Below.refl _ _⟩
   ·have j1:¬ (size:Int)<(O:Int):=by omega
    obtain ⟨L,hL⟩:∃ L:Nat,L=size-O:=⟨_,rfl⟩
    have tL:(size:Int)-(O:Int)=(L:Int):=by omega
    by_cases h2:N≤L
    ·have j2:(N:Int)≤(L:Int):=by omega
     obtain ⟨E,hE⟩:∃ E:Nat,E=O+N:=⟨_,rfl⟩
     have tE:(O:Int)+(N:Int)=(E:Int):=by omega
     have HS:=hide (span_any ab key ch size O E w hB hk (by omega) (by omega))
     have HR:=hide (fun r (h:Ref.Spn key.data.toList ch.data.toList E O [] r)=>AtRd.all (key:=key.data.toList) (body:=ch.data.toList) (size:=size) (n:=(N:Int)) (off:=(O:Int)) r (by omega) (by omega) (by omega) (by rw[Int.toNat_natCast,Int.toNat_natCast,←hE];exact h))
     clear hB hk n1 n2 o1 o2 hn ho hL hE h2 h1
     go_enter Tryz.func40,Tryz.ntmps40
     go_wp2_with fail
     refine HS.out.mono ?_
     rintro e w1 ⟨r,hr,rfl,hb1⟩
     have H1:=hide (HR.out r hr)
     have B1:=hide hb1
     unfold ansV
     clear hr hb1 HS HR
     obtain ⟨rt,re⟩:=r
     go_wp2
     refine bodyPost_ret (results_tmp2 rfl _ _ _) rfl ?_
     first | exact ⟨(rt,re),H1.out,rfl,B1.out⟩ | exact ⟨rt,re,H1.out,rfl,B1.out⟩
    ·have j2:¬ (N:Int)≤(L:Int):=by omega
     have HS:=hide (span_any ab key ch size O size w hB hk (by omega) (by omega))
     have HR:=hide (fun r (h:Ref.Spn key.data.toList ch.data.toList size O [] r)=>AtRd.some (key:=key.data.toList) (body:=ch.data.toList) (size:=size) (n:=(N:Int)) (off:=(O:Int)) r (by omega) (by omega) (by omega) (by omega) (by rw[Int.toNat_natCast];exact h))
     clear hB hk n1 n2 o1 o2 hn ho hL h2 h1
     go_enter Tryz.func40,Tryz.ntmps40
     go_wp2_with fail
     refine HS.out.mono ?_
     rintro e w1 ⟨r,hr,rfl,hb1⟩
     have H1:=hide (HR.out r hr)
     have B1:=hide hb1
     unfold ansV
     clear hr hb1 HS HR
     obtain ⟨rt,re⟩:=r
     by_cases hre:re=0
     ·subst hre
      go_wp2
      refine bodyPost_ret (results_tmp2 rfl _ _ _) rfl ?_
      first | exact ⟨(rt,13),(by have h:=H1.out;simpa using h),rfl,B1.out⟩ | exact ⟨rt,13,(by have h:=H1.out;simpa using h),rfl,B1.out⟩
     ·have z1:(re != 0)=true:=by rw[bne_iff_ne];exact hre
      have HH:=hide hre
      clear hre
      go_wp2
      refine bodyPost_ret (results_tmp2 rfl _ _ _) rfl ?_
      first | exact ⟨(rt,re),(by have h:=H1.out;rw[if_pos HH.out] at h;exact h),rfl,B1.out⟩ | exact ⟨rt,re,(by have h:=H1.out;rw[if_pos HH.out] at h;exact h),rfl,B1.out⟩
def NewAtP (m file:ByteArray) (w:World) (e:Ending) (w':World):Prop:=∃ k key ch size pv,AtN m.data.toList file k key ch size∧e = .returned (.tuple #[pv,.int .i64 k])∧(k≠0→pv = .pointer none)∧(k=0→∃ ab,w.heap.size≤ab∧pv = .pointer (some ⟨ab,0,none⟩)∧Blk w' ab 129 (atCells ⟨key.toArray⟩ ch size)∧key.length=32∧size≤file.size+64)∧Below w.heap.size w w'
theorem at_nums (F A:Nat) (h:A<F) (hF:F≤1099511627776):∃ C D i p:Nat,C=F-A∧(C:Int)-1=(D:Int)∧(D:Int).tdiv 32=(i:Int)∧(D:Int)/32=(i:Int)∧i=(F-A-1)/32∧(i:Int)*16=(p:Int)∧p=16*i∧i≤35184372088832∧p≤F:=by
 refine ⟨F-A,F-A-1,(F-A-1)/32,16*((F-A-1)/32),rfl,by omega,?_,by omega,rfl,by omega,rfl,by omega,by omega⟩
 rw[Int.tdiv_eq_ediv_of_nonneg (by omega)]
 omega
set_option maxRecDepth 100000 in
set_option maxHeartbeats 1600000 in
theorem newAt_any (m file:ByteArray) (w:World) (ht:Tabs w) (hz:file.size≤1099511627776):
  Calls Tryz.prog 38 #[.string m,.string file] w (NewAtP m file w):=by
 have h2:=ht.two
 have HT:=hide ht
 have HSO:=hide (sourceOf_nil file w hz)
 have HNR:=hide (fun b (w1:World) t s hb=>newReader_any m b w.heap.size (src0 file) w1 t s hb)
 clear ht
 go_enter Tryz.func38,Tryz.ntmps38
 go_wp2_with fail
 refine HSO.out.mono ?_
 rintro e w1 ⟨b,rfl,hb,hS1,hb1⟩
 have hbl1:b<w1.heap.size:=hS1.hb.lt
 have HN1:=hide (HNR.out b w1 (HT.out.after hb1) hS1 (by omega))
 have B1:=hide hb1
 clear HSO HNR hS1 hb1 HT
 go_wp2_with fail
 refine HN1.out.mono ?_
 rintro e w2 ⟨y,k,key,pv,hN,rfl,hk1,hk2,hS2,hG2⟩
 have hnf:=New.src hN (Nat.zero_le _)
 have HNW:=hide hN
 have B2:=hide (B1.out.trans (RowKit.Below.of_grown hG2 (Nat.le_of_lt hb) B1.out.size))
 have hsz2:=B2.out.size
 have HPL:=hide (srcPlace_any b w.heap.size y w2 hS2)
 have hys:y.s=file:=hnf.1
 have hya:=hnf.2.2.2.1
 rw[hys] at hya
 clear HN1 hN hS2 hG2 B1
 by_cases hk:k=0
 ·subst hk
  obtain ⟨rb,hrb,rfl,hR⟩:=hk2 rfl
  have hkl:=hnf.2.2.2.2 rfl
  have HKL:=hide hkl
  have c1:w2.cell? ⟨rb,1,none⟩=some (.string ⟨key.toArray⟩):=hR.hb.cell (i:=1) rfl
  obtain ⟨F,hF⟩:∃ F:Nat,file.size=F:=⟨_,rfl⟩
  obtain ⟨A,hA⟩:∃ A:Nat,y.at_=A:=⟨_,rfl⟩
  rw[hF,hA] at hya
  rw[hA] at HPL
  have HFA:=hide (And.intro hF hA)
  clear hk1 hk2 hR hnf hys hkl
  by_cases hlt:A<F
  ·have j1:¬ (F:Int)≤(A:Int):=by omega
   have j2:(A:Int)≤(F:Int):=by omega
   obtain ⟨C,D,i,p,hC,tD,ti,ti2,hi,tp,hp,hib,hpF⟩:=at_nums F A hlt (by omega)
   have HOK:=hide (AtN.ok (m:=m.data.toList) (file:=file) y key HNW.out (by rw[hA,hF];exact hlt))
   have HLA:=hide (AtN.last (m:=m.data.toList) (file:=file) y key HNW.out (by rw[hA,hF];exact hlt))
   rw[hA,hF,←hi] at HOK HLA
   obtain ⟨ch,hch⟩:∃ x,file.extract A F=x:=⟨_,rfl⟩
   have hcs:ch.size=C:=by rw[←hch,ByteArray.size_extract];omega
   rw[hch] at HOK HLA
   have hkz:(⟨key.toArray⟩:ByteArray).size=32:=by rw[two_size,HKL.out]
   have hol:=opnI_len key ch.data.toList i
   have HAO:=hide (fun ab w' h=>atOpen_any ab ⟨key.toArray⟩ ch 0 i w' h hkz hib)
   rw[two_toList] at HAO
   unfold ansV at HAO
   generalize Ref.opnI key ch.data.toList i=op at *
   obtain ⟨ot,oe⟩:=op
   have hfn:=(Below.refl w2.heap.size w2)
   clear hfn
   generalize hkb:(⟨key.toArray⟩:ByteArray)=kb at *
   have HP:=hide hp
   have HI:=hide (And.intro hi hC)
   clear hi hp hC hlt
   go_wp2_with fail
   refine HPL.out.mono ?_
   rintro e w3 ⟨rfl,rfl⟩
   clear HPL
   go_wp2
   go_region
   have hB4:Blk (w3.alloc (.cells #[.string kb,.string ch,.int .i64 0] 129)).drew w3.heap.size 129 (atCells kb ch 0):=Blk.drewN (Blk.new rfl rfl) 1
   have hbA:Below w3.heap.size w3 (w3.alloc (.cells #[.string kb,.string ch,.int .i64 0] 129)).drew:=below_drewN ((Below.refl _ _).alloc (Nat.le_refl _) _) 1
   have HO4:=hide (HAO.out _ _ hB4)
   have c41:=hB4.cell (i:=1) rfl
   have HB4:=hide hB4
   have BE4:=hide (B2.out.trans (hbA.mono hsz2))
   obtain ⟨w4,hw4⟩:∃ x,(w3.alloc (.cells #[.string kb,.string ch,.int .i64 0] 129)).drew=x:=⟨_,rfl⟩
   rw[hw4] at HO4 HB4 BE4 c41
   clear HAO hB4 hbA c1
   go_wp2_with fail
   refine HO4.out.mono ?_
   rintro e w5 ⟨rfl,hb5⟩
   have HB5:=hide (HB4.out.below hb5 HB4.out.lt)
   have BE5:=hide (BE4.out.trans (hb5.mono BE4.out.size))
   clear hb5 HO4 HB4 BE4 hw4 c41
   by_cases hoe:oe=0
   ·subst hoe
    have HRS:=hide (HOK.out (by simp))
    have hotz:(⟨ot.toArray⟩:ByteArray).size=ot.length:=two_size _
    have hol2:ot.length≤32:=hol
    generalize (⟨ot.toArray⟩:ByteArray)=bt at *
    obtain ⟨S,hS⟩:∃ S:Nat,S=p+bt.size:=⟨_,rfl⟩
    have tS:(p:Int)+(bt.size:Int)=(S:Int):=by omega
    have HSS:=hide (show 16*i+ot.length=S by have:=HP.out;omega)
    have HSB:=hide (show S≤file.size+64 by have:=HFA.out.1;omega)
    have hSb:S≤2199023255552:=by omega
    have bzb:bt.size≤32:=by omega
    have c52:=HB5.out.cell (i:=2) rfl
    have f5:=HB5.out.frozen
    have HB6:=hide (show Blk (w5.setCell ⟨w3.heap.size,2,none⟩ (.int .i64 (S:Nat))) w3.heap.size 129 (atCells kb ch S) from HB5.out.setCell_same 2 _)
    have BE6:=hide (BE5.out.setCell (p:=⟨w3.heap.size,2,none⟩) hsz2 (.int .i64 (S:Nat)))
    clear HOK HLA hS hotz hol hol2 HB5 BE5
    go_wp2
    refine bodyPost_ret (results_tmp2 rfl _ _ _) rfl ?_
    refine ⟨0,key,ch,S,_,(by have h:=HRS.out;rw[HSS.out] at h;exact h),rfl,fun h=>absurd rfl h,fun _=>⟨w3.heap.size,hsz2,rfl,?_,HKL.out,HSB.out⟩,BE6.out⟩
    rw[hkb]
    exact HB6.out
   ·have z1:(oe != 0)=true:=by rw[bne_iff_ne];exact hoe
    have HRS:=hide (HLA.out hoe)
    have HH:=hide hoe
    generalize (⟨ot.toArray⟩:ByteArray)=bt at *
    clear HOK HLA hoe hol HB5
    go_wp2
    refine bodyPost_ret (results_tmp2 rfl _ _ _) rfl ?_
    exact ⟨oe,[],⟨#[]⟩,0,_,HRS.out,rfl,fun _=>rfl,fun h=>absurd h HH.out,BE5.out⟩
  ·have j1:(F:Int)≤(A:Int):=by omega
   have HCU:=hide (AtN.cut (m:=m.data.toList) (file:=file) y key HNW.out (by rw[hA,hF];omega))
   clear hlt HNW
   go_wp2_with fail
   refine HPL.out.mono ?_
   rintro e w3 ⟨rfl,rfl⟩
   clear HPL
   go_wp2
   refine bodyPost_ret (results_tmp2 rfl _ _ _) rfl ?_
   exact ⟨10,[],⟨#[]⟩,0,_,HCU.out,rfl,fun _=>rfl,fun h=>absurd h (by decide),B2.out⟩
 ·have z1:(k != 0)=true:=by rw[bne_iff_ne];exact hk
  obtain rfl:=hk1 hk
  have HDB:=hide (AtN.bad (m:=m.data.toList) (file:=file) y k key HNW.out hk)
  have HK:=hide hk
  clear hk hk1 hk2 HNW hnf hys hya HPL
  go_wp2
  refine bodyPost_ret (results_tmp2 rfl _ _ _) rfl ?_
  exact ⟨k,[],⟨#[]⟩,0,_,HDB.out,rfl,fun _=>rfl,fun h=>absurd h HK.out,B2.out⟩
set_option maxHeartbeats 400000 in
theorem keepPick_any (c:Int) (n:Nat) (w:World) (h1 : -9223372036854775808≤c) (h2:c≤9223372036854775807) (hn:0<n) (hn2:n≤1099511627776):
  Calls Tryz.prog 15 #[.int .i64 c,.int .i64 (n:Nat)] w fun e w'=>e = .returned (.int .i64 (pickN c n:Nat))∧w'=w:=by
 have z1:((n:Int)==0)=false:=beq_eq_false_iff_ne.2 (by omega)
 by_cases hc:c<0
 ·have hk:(-(c+1)).tmod (n:Int)=((((-(c+1)).toNat%n:Nat)):Int):=by
   rw[Int.tmod_eq_emod_of_nonneg (by omega),Int.natCast_emod,Int.toNat_of_nonneg (by omega)]
  have HK:=hide hk
  clear hk
  go_enter Tryz.func15,Tryz.ntmps15
  go_wp2
  go_ret
  exact ⟨ret_int (by rw[←Int.neg_tmod,HK.out,pickN,if_pos (by omega)]),rfl⟩
 ·have hk:c.tmod (n:Int)=(((c.toNat%n:Nat)):Int):=by
   rw[Int.tmod_eq_emod_of_nonneg (by omega),Int.natCast_emod,Int.toNat_of_nonneg (by omega)]
  have he:c%(n:Int)=((c.toNat%n:Nat):Int):=by rw[Int.natCast_emod,Int.toNat_of_nonneg (by omega)]
  have HK:=hide hk
  have HE:=hide he
  clear hk he
  go_enter Tryz.func15,Tryz.ntmps15
  go_wp2
  go_ret
  exact ⟨ret_int (by rw[pickN,if_neg (by omega)];first | exact HE.out | exact HK.out),rfl⟩
theorem set_take {xs cur:List Value} {m j:Nat} {u:Value} (h:cur.take m=xs):(cur.set j u).take m=xs.set j u:=by rw[List.take_set,h]
theorem Row.set1 {w:World} {base g cap n i:Nat} {xs:List Value} (h:Row w base 5 1 (.slice (some ⟨g,0,none⟩) n cap) n xs) (u:Value):Row (w.setCell ⟨g,i,none⟩ u) base 5 1 (.slice (some ⟨g,0,none⟩) n cap) n (xs.set i u):=by
 obtain ⟨q1,q2⟩:=h
 refine ⟨by rw[List.length_set];exact q1,?_⟩
 rcases q2 with ⟨hn,_⟩ | ⟨g',cap',cur,hv',hb',hB,hc,hm,hcl,htk⟩
 ·cases hn
 ·injection hv' with hv1 hv2 hv3
  injection hv1 with hv1
  injection hv1 with hv1 _ _
  subst hv1
  subst hv3
  exact .inr ⟨g,cap,cur.set i u,rfl,hb',hB.setCell_same _ _,hc,hm,by rw[List.length_set];exact hcl,set_take htk⟩
set_option maxRecDepth 100000 in
set_option maxHeartbeats 1600000 in
theorem changed_any (s:ByteArray) (p:Int) (c:UInt8) (w:World) (h1 : -9223372036854775808≤p) (h2:p≤9223372036854775807) (hs0:0<s.size) (hs:s.size≤1099511627):
  Calls Tryz.prog 41 #[.string s,.int .i64 p,.int .u8 ((c.toNat:Nat):Int)] w fun e w'=>∃ r:ByteArray,e = .returned (.string r)∧r.size=s.size∧Below w.heap.size w w':=by
 have hcv:=fun w:World=>run_bytes_of_string (P:=Tryz.prog) w 9 67 5 s Tryz.underlying9 Tryz.underlying67 Tryz.underlying5
 have hge:=grownCap_ge w s.size 0 5
 have hle:=grownCap_le_maxLen w s.size 0 5 (by unfold maxLen;omega)
 have hrow:=row_bytes s w _ hge hle
 have hlen:s.data.toList.length=s.size:=by rw[Array.length_toList];rfl
 have hpk:=pickN_lt p s.size hs0
 have HPK:=hide (fun w=>keepPick_any p s.size w h1 h2 hs0 (by omega))
 have hbe:Below w.heap.size w (w.drew.alloc (.cells (bytesRow s (grownCap w s.size 0 5)) 5 ((bytesRow s (grownCap w s.size 0 5)).size,(bytesRow s (grownCap w s.size 0 5)).size+1))):=(Below.refl w.heap.size w).drew.alloc (Nat.le_refl _) _
 generalize hcape:grownCap w s.size 0 5=cap at *
 generalize pickN p s.size=i at *
 obtain ⟨g,cap',cur,hv,_,hB,_,_,hcl,htk⟩:=hrow.open hs0
 injection hv with hv1 hv2 hv3
 injection hv1 with hv1
 injection hv1 with hv1 _ _
 subst hv1
 subst hv3
 have hx:s.data.toList[i]? = some (s.data.toList[i]'(by omega)):=List.getElem?_eq_getElem _
 have c0:(w.drew.alloc (.cells (bytesRow s cap) 5 ((bytesRow s cap).size,(bytesRow s cap).size+1))).cell? ⟨w.heap.size,i,none⟩=some (.int .u8 (((s.data.toList[i]'(by omega)).toNat:Nat):Int)):=hB.cell (take_at htk (by simp[u8L,hx]))
 have f0:(w.drew.alloc (.cells (bytesRow s cap) 5 ((bytesRow s cap).size,(bytesRow s cap).size+1))).frozen? ⟨w.heap.size,i,none⟩=false:=hB.frozen (by rw[hcl];omega)
 have t1:=u8_xor (s.data.toList[i]'(by omega)) c
 have HR:=hide (Row.set1 hrow (i:=i) (.int .u8 ((((s.data.toList[i]'(by omega)) ^^^ c).toNat:Nat):Int)))
 have hset:(u8L s.data.toList).set i (.int .u8 ((((s.data.toList[i]'(by omega)) ^^^ c).toNat:Nat):Int))=u8L (s.data.toList.set i ((s.data.toList[i]'(by omega)) ^^^ c)):=by unfold u8L;rw[List.map_set]
 rw[hset] at HR
 have hl2:(s.data.toList.set i ((s.data.toList[i]'(by omega)) ^^^ c)).length=s.size:=by rw[List.length_set];exact hlen
 obtain ⟨ao,cp,hve,_,_,hcv2⟩:=Row.strAny HR.out
 obtain ⟨ao3,cp3,hve3,_,_,hcv3⟩:=Row.strAny HR.out.drew
 have HBE:=hide hbe
 generalize s.data.toList.set i ((s.data.toList[i]'(by omega)) ^^^ c)=l2 at *
 generalize (s.data.toList[i]'(by omega)) ^^^ c=y at *
 generalize (s.data.toList[i]'(by omega))=x at *
 clear hrow hB hcl htk hset hve hve3 HR hx hbe hlen
 unfold maxLen at hle
 have jn:(0:Int)<(s.size:Int):=by omega
 have ji:(i:Int)<(s.size:Int):=by omega
 go_enter Tryz.func41,Tryz.ntmps41
 go_wp2_with fail
 refine (HPK.out _).mono ?_
 rintro e w2 ⟨rfl,hw2⟩
 have c2:w2.cell? ⟨w.heap.size,i,none⟩=some (.int .u8 ((x.toNat:Nat):Int)):=by rw[hw2];exact c0
 have f2:w2.frozen? ⟨w.heap.size,i,none⟩=false:=by rw[hw2];exact f0
 have hc2:(convert 67 9 (.slice (some ⟨w.heap.size,0,none⟩) s.size cap)).run Tryz.prog (w2.setCell ⟨w.heap.size,i,none⟩ (.int .u8 ((y.toNat:Nat):Int))) = .ok (.string ⟨l2.toArray⟩) (w2.setCell ⟨w.heap.size,i,none⟩ (.int .u8 ((y.toNat:Nat):Int))):=by rw[hw2];exact hcv2
 have hc3:(convert 67 9 (.slice (some ⟨w.heap.size,0,none⟩) s.size cap)).run Tryz.prog (w2.setCell ⟨w.heap.size,i,none⟩ (.int .u8 ((y.toNat:Nat):Int))).drew = .ok (.string ⟨l2.toArray⟩) (w2.setCell ⟨w.heap.size,i,none⟩ (.int .u8 ((y.toNat:Nat):Int))).drew:=by rw[hw2];exact hcv3
 have HB2:=hide (show Below w.heap.size w w2 by rw[hw2];exact HBE.out)
 clear HPK hw2 c0 f0 hcv2 hcv3 HBE hcv hcape
 go_wp2
 go_ret
 exact ⟨_,rfl,by rw[ba_size];exact hl2,HB2.out.setCell (Nat.le_refl _) _⟩
theorem make_cap (n:Nat) (hn:n≤1099511627776) (w:World):(Instr.makeSlice 67 (.int .i64 0) (.int .i64 (n:Nat))).run Tryz.prog w = .ok (.slice (some ⟨w.heap.size,0,none⟩) 0 n) (w.alloc (.cells (u8L (List.replicate n 0)).toArray 5)):=by
 obtain ⟨i0,hi,hz0,hz1,hz2⟩:=info_parts infoU8
 have h:=run_make (P:=Tryz.prog) w 67 5 i0 (.int .u8 0) Tryz.underlying67 hi hz0 .i64 .i64 0 (n:Int) (by omega) (by omega) (by rw[hz2];omega) (by omega)
 rw[hz1] at h
 simp only[Int.toNat_natCast] at h
 rw[bytes_made] at h
 exact h
set_option maxHeartbeats 400000 in
theorem kpick_any (c:Int) (n:Nat) (w:World) (h1 : -9223372036854775808≤c) (h2:c≤9223372036854775807) (hn:0<n) (hn2:n≤1099511627776):
  Calls Tryz.prog 15 #[.int .i64 c,.int .i64 (n:Nat)] w fun e w'=>e = .returned (.int .i64 (pickN c n:Nat))∧w'=w:=by
 have z1:((n:Int)==0)=false:=beq_eq_false_iff_ne.2 (by omega)
 by_cases hc:c<0
 ·have hk:(-(c+1)).tmod (n:Int)=((((-(c+1)).toNat%n:Nat)):Int):=by
   rw[Int.tmod_eq_emod_of_nonneg (by omega),Int.natCast_emod,Int.toNat_of_nonneg (by omega)]
  have HK:=hide hk
  clear hk
  go_enter Tryz.func15,Tryz.ntmps15
  go_wp2
  go_ret
  exact ⟨ret_int (by rw[←Int.neg_tmod,HK.out,pickN,if_pos (by omega)]),rfl⟩
 ·have hk:c.tmod (n:Int)=(((c.toNat%n:Nat)):Int):=by
   rw[Int.tmod_eq_emod_of_nonneg (by omega),Int.natCast_emod,Int.toNat_of_nonneg (by omega)]
  have he:c%(n:Int)=((c.toNat%n:Nat):Int):=by rw[Int.natCast_emod,Int.toNat_of_nonneg (by omega)]
  have HK:=hide hk
  have HE:=hide he
  clear hk he
  go_enter Tryz.func15,Tryz.ntmps15
  go_wp2
  go_ret
  exact ⟨ret_int (by rw[pickN,if_neg (by omega)];first | exact HE.out | exact HK.out),rfl⟩
def Upto40 (w:World) (e:Ending) (w':World):Prop:=∃ n:Nat,n≤40∧e = .returned (.int .i64 (n:Nat))∧w'=w
theorem piece_b (q k:Nat) (hq:q<37) (hk:k≤536870912):q*(k+1)≤19864223781:=Nat.le_trans (Nat.mul_le_mul (Nat.le_of_lt hq) (Nat.succ_le_succ hk)) (by decide)
theorem piece_d (k:Nat) (hk:k≤536870912):7*k*k≤2017612633061982208:=Nat.le_trans (Nat.mul_le_mul (Nat.mul_le_mul_left 7 hk) hk) (by decide)
theorem piece_nums (q k:Nat) (hq:q<37) (hk:k≤536870912):∃ a b c d s r:Nat,r≤40∧(k:Int)+1=(a:Int)∧(q:Int)*(a:Int)=(b:Int)∧7*(k:Int)=(c:Int)∧(c:Int)*(k:Int)=(d:Int)∧(s:Int).tmod 41=(r:Int)∧(b:Int)+(d:Int)=(s:Int)∧a≤536870913∧b≤19864223781∧c≤3758096384∧d≤2017612633061982208∧s≤2017612652926205989:=by
 have hb:=piece_b q k hq hk
 have hd:=piece_d k hk
 refine ⟨k+1,q*(k+1),7*k,7*k*k,q*(k+1)+7*k*k,(q*(k+1)+7*k*k)%41,Nat.le_of_lt_succ (Nat.mod_lt _ (by decide)),by rw[Int.natCast_add];rfl,by rw[Int.natCast_mul],by rw[Int.natCast_mul];rfl,by rw[←Int.natCast_mul],?_,by rw[←Int.natCast_add],Nat.succ_le_succ hk,hb,Nat.mul_le_mul_left 7 hk,hd,Nat.add_le_add hb hd⟩
 rw[Int.tmod_eq_emod_of_nonneg (Int.natCast_nonneg _)]
 exact (Int.natCast_emod _ 41).symm
theorem wrap64_nat {x:Int} {n:Nat} (h:x=(n:Int)) (hn:n≤9223372036854775807):wrap64 x=(n:Int):=by
 rw[h]
 exact IntWalk.wrap64_in _ (by omega)
theorem piece_wraps (q k:Nat) (hq:q<37) (hk:k≤536870912):∃ a b c d s r:Nat,r≤40∧wrap64 ((k:Int)+1)=(a:Int)∧wrap64 ((q:Int)*(a:Int))=(b:Int)∧wrap64 (7*(k:Int))=(c:Int)∧wrap64 ((c:Int)*(k:Int))=(d:Int)∧wrap64 ((b:Int)+(d:Int))=(s:Int)∧(s:Int).tmod 41=(r:Int)∧(s:Int)%41=(r:Int)∧wrap64 (r:Int)=(r:Int):=by
 obtain ⟨a,b,c,d,s,r,hr,e1,e2,e3,e4,e5,e6,ba,bb,bc,bd,bs⟩:=piece_nums q k hq hk
 refine ⟨a,b,c,d,s,r,hr,wrap64_nat e1 (Nat.le_trans ba (by decide)),wrap64_nat e2 (Nat.le_trans bb (by decide)),wrap64_nat e3 (Nat.le_trans bc (by decide)),wrap64_nat e4 (Nat.le_trans bd (by decide)),wrap64_nat e6 (Nat.le_trans bs (by decide)),e5,?_,wrap64_nat rfl (Nat.le_trans hr (by decide))⟩
 rw[←Int.tmod_eq_emod_of_nonneg (Int.natCast_nonneg _)]
 exact e5
set_option maxHeartbeats 400000 in
theorem piece_any (turn:Int) (k:Nat) (w:World) (h1 : -9223372036854775808≤turn) (h2:turn≤9223372036854775807) (hk:k≤536870912):
  Calls Tryz.prog 36 #[.int .i64 turn,.int .i64 (k:Nat)] w (Upto40 w):=by
 have HP:Hid (∀ w,Calls Tryz.prog 15 #[.int .i64 turn,.int .i64 ((37:Nat):Int)] w fun e w'=>e = .returned (.int .i64 (pickN turn 37:Nat))∧w'=w):=hide (fun w=>kpick_any turn 37 w h1 h2 (by decide) (by decide))
 obtain ⟨a,b,c,d,s,r,hr,t1,t2,t3,t4,t5,t6,t8,t7⟩:=piece_wraps (pickN turn 37) k (pickN_lt turn 37 (by decide)) hk
 generalize pickN turn 37=q at *
 have HR:=hide hr
 clear hr hk h1 h2
 go_enter Tryz.func36,Tryz.ntmps36
 go_wp2_with fail
 refine (HP.out _).mono ?_
 rintro e w1 ⟨rfl,rfl⟩
 clear HP
 go_wp2
 go_ret
 exact ⟨r,HR.out,rfl,rfl⟩
theorem u8_of (c:Int):∃ X:UInt8,c%256=((X.toNat:Nat):Int):=by
 have h0:0≤c%256:=Int.emod_nonneg _ (by decide)
 have h1:c%256<256:=Int.emod_lt_of_pos _ (by decide)
 refine ⟨UInt8.ofNat (c%256).toNat,?_⟩
 simp
 omega
theorem u8L_set (l:List UInt8) (i:Nat) (x:UInt8):u8L (l.set i x)=(u8L l).set i (.int .u8 ((x.toNat:Nat):Int)):=by
 unfold u8L
 rw[List.map_set]
def Text (n:Nat) (w:World) (e:Ending) (w':World):Prop:=∃ m:ByteArray,m.size=n∧e = .returned (.string m)∧Below w.heap.size w w'
set_option maxRecDepth 100000 in
set_option maxHeartbeats 800000 in
theorem master_any (c:Int) (w:World):Calls Tryz.prog 47 #[.int .i64 c] w (Text 32 w):=by
 have hmk:(Instr.makeSlice 67 (.int .i64 32) (.int .i64 32)).run Tryz.prog w = .ok (.slice (some ⟨w.heap.size,0,none⟩) 32 32) (w.alloc (.cells (u8L (List.replicate 32 0)).toArray 5)):=make_bytes 32 (by decide) w
 have hB:Blk (w.alloc (.cells (u8L (List.replicate 32 0)).toArray 5)) w.heap.size 5 (u8L (List.replicate 32 0)):=Blk.new rfl rfl
 have hbe:Below w.heap.size w (w.alloc (.cells (u8L (List.replicate 32 0)).toArray 5)):=(Below.refl _ _).alloc (Nat.le_refl _) _
 obtain ⟨w1,hw1⟩:∃ x,w.alloc (.cells (u8L (List.replicate 32 0)).toArray 5)=x:=⟨_,rfl⟩
 rw[hw1] at hmk hB hbe
 have c0:w1.cell? ⟨w.heap.size,0,none⟩=some (.int .u8 0):=hB.cell (i:=0) rfl
 have c31:w1.cell? ⟨w.heap.size,31,none⟩=some (.int .u8 0):=hB.cell (i:=31) rfl
 have f:=hB.frozen
 obtain ⟨X,hX⟩:=u8_of c
 have hR:Row ((w1.setCell ⟨w.heap.size,0,none⟩ (.int .u8 (c%256))).setCell ⟨w.heap.size,31,none⟩ (.int .u8 7)) w.heap.size 5 1 (.slice (some ⟨w.heap.size,0,none⟩) 32 32) 32 (u8L (((List.replicate 32 0).set 0 X).set 31 7)):=by
  rw[u8L_set,u8L_set,←hX]
  exact Row.set1 (Row.set1 (Row.newB hB (Nat.le_refl _) (by decide)) _) _
 obtain ⟨ao,cap,h1,h2,h3,hcv⟩:=Row.strAny hR
 have HE:=hide ((hbe.setCell (p:=⟨w.heap.size,0,none⟩) (Nat.le_refl _) (.int .u8 (c%256))).setCell (p:=⟨w.heap.size,31,none⟩) (Nat.le_refl _) (.int .u8 7))
 clear hw1 hB hR h1 h2 h3 hX hbe
 go_enter Tryz.func47,Tryz.ntmps47
 go_wp2
 go_ret
 exact ⟨_,by rw[two_size];simp,rfl,HE.out⟩
def Masters (n:Nat) (w:World) (e:Ending) (w':World):Prop:=∃ v,e = .returned v∧∃ l:List ByteArray,Row w' w.heap.size 9 1 v l.length (strV l)∧(n=1→l.length=1)∧1≤l.length∧l.length≤3∧(∀ m ∈ l,m.size=32)∧Below w.heap.size w w'
theorem all_app {l:List ByteArray} {m:ByteArray} (h:∀ x ∈ l,x.size=32) (hm:m.size=32):∀ x ∈ l++[m],x.size=32:=by
 intro x hx
 rcases List.mem_append.1 hx with h1 | h1
 ·exact h x h1
 ·rw[List.mem_singleton.1 h1];exact hm
set_option maxRecDepth 100000 in
set_option maxHeartbeats 1600000 in
theorem masters_any (t:ByteArray) (w:World) (ht:t.size≤9223372036854775807):Calls Tryz.prog 18 #[.string t] w (Masters t.size w):=by
 go_enter Tryz.func18,Tryz.ntmps18
 go_wp2
 go_loopw [3,4] (fun v vi wr=>∃ (k:Nat) (l:List ByteArray),k≤3∧k≤t.size∧vi = .int .i64 k∧l.length=k∧(∀ m ∈ l,m.size=32)∧Row wr w.heap.size 9 1 v k (strV l)∧Below w.heap.size w wr) (fun _ i _=>3-(intOf i).toNat)
 case atStart=>exact ⟨0,[],by omega,by omega,rfl,rfl,(fun m hm=>by cases hm),Row.nil _ _ _ _,Below.refl _ _⟩
 case round=>
  obtain ⟨k,l,hk3,hkt,rfl,hl,hm,hr,hbe⟩:=hrel
  have HL:=hide hl
  have HM:=hide hm
  have HR:=hide hr
  have HBE:=hide hbe
  obtain ⟨ao,cap,rfl,hd1,hd2⟩:=Row.anyN hr
  unfold maxLen at hd2
  clear hl hm hr hbe
  by_cases hlt:k<t.size∧k<3
  ·obtain ⟨h1,h2⟩:=hlt
   have j1:(k:Int)<(t.size:Int):=by omega
   have j2:(k:Int)<3:=by omega
   have hXl:t[k].toNat<256:=UInt8.toNat_lt _
   obtain ⟨X,hX⟩:∃ X,t[k].toNat=X:=⟨_,rfl⟩
   rw[hX] at hXl
   have tw:wrap64 (X:Int)=(X:Int):=IntWalk.wrap64_in _ (by omega)
   have H2:=hide h2
   go_wp2_with fail
   refine (master_any _ _).mono ?_
   rintro e w2 ⟨m,hms,rfl,hb2⟩
   have HMS:=hide hms
   have HR2:=hide (Row.after HR.out hb2)
   have HB2:=hide (HBE.out.trans (hb2.mono HBE.out.size))
   have hsz2:=HB2.out.size
   clear hb2 hms HR
   go_wp2_with (at_builtin;refine wpList_append_strB rfl (.tmp 22) (.tmp 24) rfl w.heap.size _ k _ rfl (HR2.out.alloc _) w2.heap.size _ rfl (World.cell?_alloc_at _ _ _ _ rfl) ?_ ?_ ?_;omega;(simp;omega);intro v3 w3 hr3 hg3 hat3)
   go_roundw
   case rel=>
    have hl:=HL.out
    exact ⟨k+1,l++[m],by omega,by omega,by go_num,by simp[hl],all_app HM.out HMS.out,hr3,Below.grown (HB2.out.alloc hsz2 _) hg3 (by simp;omega) (fun g hg=>(HR2.out.lt g hg).1)⟩
   case measure=>have:=H2.out;simp[intOf];omega
  ·by_cases h0:k=0
   ·subst h0
    have hts:t.size=0:=by omega
    have j1:¬ (0:Int)<(t.size:Int):=by omega
    clear hlt hkt hts
    go_wp2_with fail
    refine (master_any _ _).mono ?_
    rintro e w2 ⟨m,hms,rfl,hb2⟩
    have HMS:=hide hms
    have HR2:=hide (Row.after HR.out hb2)
    have HB2:=hide (HBE.out.trans (hb2.mono HBE.out.size))
    have hsz2:=HB2.out.size
    clear hb2 hms HR
    go_wp2_with (at_builtin;refine wpList_append_strB rfl (.tmp 30) (.tmp 32) rfl w.heap.size _ 0 _ rfl (HR2.out.alloc _) w2.heap.size _ rfl (World.cell?_alloc_at _ _ _ _ rfl) ?_ ?_ ?_;omega;(simp;omega);intro v3 w3 hr3 hg3 hat3)
    go_ret
    have hl:=HL.out
    exact ⟨_,rfl,l++[m],by simpa [hl] using hr3,(fun _=>by simp[hl]),by simp,by simp[hl],all_app HM.out HMS.out,Below.grown (HB2.out.alloc hsz2 _) hg3 (by simp;omega) (fun g hg=>(HR2.out.lt g hg).1)⟩
   ·have z0:((k:Int)==0)=false:=beq_eq_false_iff_ne.2 (by omega)
    have H1:=hide (show 1≤k∧k≤3∧(t.size=1→k=1) by omega)
    by_cases h1:k<t.size
    ·have j1:(k:Int)<(t.size:Int):=by omega
     have j2:¬ (k:Int)<3:=by omega
     go_wp2
     go_ret
     have hl:=HL.out
     exact ⟨_,rfl,l,by rw[hl];exact HR.out,by rw[hl];exact H1.out.2.2,by rw[hl];exact H1.out.1,by rw[hl];exact H1.out.2.1,HM.out,HBE.out⟩
    ·have j1:¬ (k:Int)<(t.size:Int):=by omega
     go_wp2
     go_ret
     have hl:=HL.out
     exact ⟨_,rfl,l,by rw[hl];exact HR.out,by rw[hl];exact H1.out.2.2,by rw[hl];exact H1.out.1,by rw[hl];exact H1.out.2.1,HM.out,HBE.out⟩
def Bts (w:World) (N:Nat) (v:Value) (wr:World):Prop:=(∃ l:List UInt8,l.length=N∧Row wr w.heap.size 5 1 v N (u8L l))∧Below w.heap.size w wr
set_option maxRecDepth 100000 in
set_option maxHeartbeats 1600000 in
theorem draws_any (c:Int) (n:Nat) (w:World) (_h1 : -9223372036854775808≤c) (_h2:c≤9223372036854775807) (hn:n≤1000):Calls Tryz.prog 19 #[.int .i64 c,.int .i64 (n:Nat)] w (Text (16*n) w):=by
 obtain ⟨N,hN⟩:∃ N:Nat,N=n*16:=⟨_,rfl⟩
 have hw:(n:Int)*16=(N:Int):=by omega
 have hmk:=make_cap N (by omega)
 have hrow:Row (w.alloc (.cells (u8L (List.replicate N 0)).toArray 5)) w.heap.size 5 1 (.slice (some ⟨w.heap.size,0,none⟩) 0 N) 0 (u8L []):=
  ⟨rfl,.inr ⟨w.heap.size,N,u8L (List.replicate N 0),rfl,Nat.le_refl _,(Blk.new rfl rfl:Blk _ _ _ (u8L (List.replicate N 0))).marked,Nat.zero_le _,by unfold maxLen;omega,by simp[u8L],rfl⟩⟩
 have HB0:=hide (show Bts w 0 (.slice (some ⟨w.heap.size,0,none⟩) 0 N) (w.alloc (.cells (u8L (List.replicate N 0)).toArray 5)) from ⟨⟨[],rfl,hrow⟩,(Below.refl _ _).alloc (Nat.le_refl _) _⟩)
 have HN:=hide hN
 clear hN hrow
 go_enter Tryz.func19,Tryz.ntmps19
 go_wp2
 clear hmk hw
 go_loopw [5,6] (fun v i wr=>∃ j:Nat,j≤n∧i = .int .i64 j∧Bts w (16*j) v wr) (fun _ i _=>n-(intOf i).toNat)
 case atStart=>exact ⟨0,Nat.zero_le _,rfl,HB0.out⟩
 case round=>
  clear HB0
  obtain ⟨j,hj,rfl,hB⟩:=hrel
  have HB:=hide hB
  obtain ⟨⟨l0,hl0,hr0⟩,hbe0⟩:=hB
  obtain ⟨ao,cap,rfl,hc1,hc2,hcv⟩:=Row.strAny hr0
  clear hr0 hbe0
  by_cases hlt:j<n
  ·have jk:(j:Int)<(n:Int):=by omega
   clear hcv hl0 hc1
   go_wp2
   go_loopw [5,7] (fun v i w1=>∃ k:Nat,k≤8∧i = .int .i64 k∧Bts w (16*j+k) v w1) (fun _ i _=>8-(intOf i).toNat)
   case atStart=>exact ⟨0,Nat.zero_le _,rfl,HB.out⟩
   case round=>
    obtain ⟨k,hk,rfl,hBk⟩:=hrel
    obtain ⟨⟨l1,hl1,hr1⟩,hbe1⟩:=hBk
    have HL1:=hide hl1
    have HR1:=hide hr1
    have HBE1:=hide hbe1
    have hsz:=hbe1.size
    obtain ⟨R1,hR1⟩:∃ x:Nat,16*j+k=x:=⟨_,rfl⟩
    have hRb:R1≤20000:=by omega
    rw[hR1] at HR1 HL1 hr1
    have HQ1:=hide hR1
    obtain ⟨ao1,cap1,rfl,hd1,hd2⟩:=Row.anyN hr1
    clear hl1 hr1 hbe1 hR1
    unfold maxLen at hd2
    by_cases h8:k<8
    ·obtain ⟨E,hE⟩:∃ E:Nat,8*k=E:=⟨_,rfl⟩
     have tE:8*(k:Int)=(E:Int):=by omega
     have tm:(E:Int)%18446744073709551616=(E:Int):=by omega
     have tmin:min E 64=E:=by omega
     have HE:=hide hE
     have H8:=hide h8
     clear hE
     obtain ⟨X,hX1⟩:=u8_of (c/2 ^ E)
     have X1:=hide hX1
     clear hX1
     go_wp2_with (at_builtin;refine wpList_append_u8 rfl (.tmp 21) (.tmp 28) rfl w.heap.size _ R1 _ rfl (HR1.out.alloc _) ⟨wr.heap.size,0,none⟩ 1 1 [X] rfl rfl (one_news X1.out (World.cell?_alloc_at _ _ _ _ rfl)) ?_ ?_ ?_;omega;(simp;omega);intro v1 w1 hr1 hg1 hat1)
     go_roundw
     case rel=>
      have hl1:=HL1.out
      exact ⟨k+1,by omega,by go_num,⟨l1++[X],by rw[List.length_append,hl1,←HQ1.out];rfl,by rw[show 16*j+(k+1)=R1+1 by rw[←HQ1.out];rfl];exact hr1⟩,Below.grown (HBE1.out.alloc hsz _) hg1 (by simp;omega) (fun k hk=>(HR1.out.lt k hk).1)⟩
     case measure=>have:=H8.out;simp[intOf];omega
    ·have hk8:k=8:=by omega
     subst hk8
     have HB8:=hide (show Bts w R1 (.slice ao1 R1 cap1) wr from ⟨⟨l1,HL1.out,HR1.out⟩,HBE1.out⟩)
     clear HL1 HR1 HBE1 hk h8
     go_wp2
     go_loopw [5,8] (fun v i w1=>∃ k:Nat,k≤8∧i = .int .i64 k∧Bts w (R1+k) v w1) (fun _ i _=>8-(intOf i).toNat)
     case atStart=>exact ⟨0,Nat.zero_le _,rfl,HB8.out⟩
     case round=>
      clear HB8
      obtain ⟨k,hk,rfl,hBk⟩:=hrel
      obtain ⟨⟨l2,hl2,hr2⟩,hbe2⟩:=hBk
      have HL2:=hide hl2
      have HR2:=hide hr2
      have HBE2:=hide hbe2
      have hsz2:=hbe2.size
      obtain ⟨R2,hR2⟩:∃ x:Nat,R1+k=x:=⟨_,rfl⟩
      have hRb:R2≤20000:=by have:=HQ1.out;omega
      rw[hR2] at HR2 HL2 hr2
      have HQ2:=hide hR2
      obtain ⟨ao2,cap2,rfl,hd3,hd4⟩:=Row.anyN hr2
      clear hl2 hr2 hbe2 hR2
      unfold maxLen at hd4
      by_cases h8:k<8
      ·obtain ⟨X,hX1⟩:=u8_of ((j:Int)+(k:Int))
       have X1:=hide hX1
       have H8:=hide h8
       clear hX1
       go_wp2_with (at_builtin;refine wpList_append_u8 rfl (.tmp 34) (.tmp 39) rfl w.heap.size _ R2 _ rfl (HR2.out.alloc _) ⟨wr.heap.size,0,none⟩ 1 1 [X] rfl rfl (one_news X1.out (World.cell?_alloc_at _ _ _ _ rfl)) ?_ ?_ ?_;omega;(simp;omega);intro v1 w1 hr1 hg1 hat1)
       go_roundw
       case rel=>
        have hl2:=HL2.out
        have hb:Bts w (R1+(k+1)) v1 w1:=⟨⟨l2++[X],by rw[List.length_append,hl2,←HQ2.out];rfl,by rw[show R1+(k+1)=R2+1 by rw[←HQ2.out];rfl];exact hr1⟩,Below.grown (HBE2.out.alloc hsz2 _) hg1 (by simp;omega) (fun k hk=>(HR2.out.lt k hk).1)⟩
        (repeat apply Exists.intro)
        exact ⟨⟨k+1,by omega,by go_num,hb⟩,rfl⟩
       case measure=>have:=H8.out;simp[intOf];omega
      ·have hk8:k=8:=by omega
       subst hk8
       clear hk h8
       have HLT:=hide hlt
       go_wp2
       go_roundw
       case rel=>
        have e1:=HQ1.out
        have e2:=HQ2.out
        have hb:Bts w (16*(j+1)) (.slice ao2 R2 cap2) wr:=by
         rw[show 16*(j+1)=R2 by omega]
         exact ⟨⟨l2,HL2.out,HR2.out⟩,HBE2.out⟩
        exact ⟨j+1,by have:=HLT.out;omega,by go_num,hb⟩
       case measure=>have:=HLT.out;simp[intOf];omega
  ·have hjn:j=n:=by omega
   subst hjn
   have HC:=hide hl0
   clear hl0 hlt
   go_wp2
   go_ret
   exact ⟨_,by rw[two_size];exact HC.out,rfl,HB.out.2⟩
namespace Ref
theorem begin_good {l:List ByteArray} {s:ByteArray} (h1:1≤l.length) (h3:l.length≤3) (hm:∀ m ∈ l,m.size=32) (hs:16*(l.length+2)≤s.size):beginE l s 0=0:=by
 have hc:chkM l=0:=by
  unfold chkM
  rw[if_neg (by omega),if_neg]
  rintro ⟨i,hi,h⟩
  refine h ?_
  rw[List.getD_eq_getElem?_getD,List.getElem?_eq_getElem hi]
  exact hm _ (List.getElem_mem hi)
 unfold beginE
 rw[if_neg (by rw[hc];simp),if_pos (by omega)]
theorem newE_eq {l:List ByteArray} {s:ByteArray} (hb:beginE l s 0=0) (k:Snk):newE l s 0 k=if k.ok (head l s 0)=false then 16 else (k.put (head l s 0)).err (pdraw l s 0):=by
 unfold newE
 rw[if_neg (by rw[hb];simp)]
theorem newK_eq {l:List ByteArray} {s:ByteArray} (hb:beginE l s 0=0) (k:Snk):newK l s 0 k=if k.ok (head l s 0)=false then k.put (head l s 0) else (k.put (head l s 0)).put (pdraw l s 0):=by
 unfold newK
 rw[if_neg (by rw[hb];simp)]
theorem new_good {l:List ByteArray} {s:ByteArray} {k:Snk} (hb:beginE l s 0=0) (hk:k.got=⟨#[]⟩) (X:List UInt8) (hne:newE l s 0 k=0):
  Good (pkey l s 0).data.toList X ((head l s 0).data.toList++(pdraw l s 0).data.toList) 0 ⟨0,[],newK l s 0 k⟩:=by
 have h0:k.got.data.toList=[]:=by rw[hk]
 refine ⟨rfl,by simp,?_⟩
 show (newK l s 0 k).got.data.toList=_
 rw[newE_eq hb] at hne
 rw[newK_eq hb]
 by_cases h1:k.ok (head l s 0)=false
 ·rw[if_pos h1] at hne;cases hne
 ·rw[if_neg h1] at hne ⊢
  have h1':k.ok (head l s 0)=true:=by simpa using h1
  rcases (k.put (head l s 0)).err_cases (pdraw l s 0) with ⟨_,e⟩ | ⟨e,_⟩
  ·rw[put_got e,put_got h1',h0,List.nil_append]
   show _=_++[]
   rw[List.append_nil]
  ·rw[e] at hne;cases hne
theorem new_room {l:List ByteArray} {s:ByteArray} {k:Snk} (hb:beginE l s 0=0) (hk:k.got=⟨#[]⟩) (hp:k.pos=0):(newK l s 0 k).got.size≤2000∧(newK l s 0 k).pos≤2∧(newK l s 0 k).plan=k.plan:=by
 obtain ⟨s1,s2⟩:=head_size hb
 have e0:k.got.size=0:=by rw[hk];rfl
 have a1:=k.put_size (head l s 0)
 have a2:=k.put_pos (head l s 0)
 have b1:=(k.put (head l s 0)).put_size (pdraw l s 0)
 have b2:=(k.put (head l s 0)).put_pos (pdraw l s 0)
 rw[newK_eq hb]
 split
 ·exact ⟨by omega,by omega,rfl⟩
 ·exact ⟨by omega,by omega,rfl⟩
end Ref
structure FlS (w:World) (v:Value) (l:List ByteArray) (wi:World):Prop where
 two:2≤w.heap.size
 tabs:Tabs wi
 strs:Strs wi v l
 be:Below w.heap.size w wi
theorem FlS.after {w:World} {v:Value} {l:List ByteArray} {wi wj:World} (h:FlS w v l wi) (hb:Below wi.heap.size wi wj):FlS w v l wj:=⟨h.two,h.tabs.after hb,h.strs.after hb,h.be.trans (hb.mono h.be.size)⟩
theorem FlS.grown {w:World} {v:Value} {l:List ByteArray} {wi wj:World} {b:Nat} (h:FlS w v l wi) (hg:wi.grownBy wj (some b)) (hb:w.heap.size≤b) (hv:∀ g o n c,v = .slice (some ⟨g,o,none⟩) n c→0<l.length→g≠b):FlS w v l wj:=
 ⟨h.two,h.tabs.grown hg (Nat.le_trans h.two hb),h.strs.grown hg hv,h.be.trans (RowKit.Below.of_grown hg hb h.be.size)⟩
theorem FlS.apart {w:World} {v:Value} {l:List ByteArray} {wi:World} (h:FlS w v l wi) {b:Nat} (hb:wi.heap.size≤b):∀ g o n c,v = .slice (some ⟨g,o,none⟩) n c→0<l.length→g≠b:=fun g o n c e hl=>Nat.ne_of_lt (Nat.lt_of_lt_of_le (h.strs.blt g o n c e hl) hb)
def fileB (l:List ByteArray) (d text:ByteArray):ByteArray:=⟨(Ref.file l d 0 text.data.toList).toArray⟩
set_option maxHeartbeats 800000 in
theorem zeros_any (w:World):Calls Tryz.prog 33 #[] w fun e w'=>e = .returned (.string ⟨(nought 12).toArray⟩)∧Below w.heap.size w w':=by
 have hmk:(Instr.makeSlice 67 (.int .i64 12) (.int .i64 12)).run Tryz.prog w = .ok (.slice (some ⟨w.heap.size,0,none⟩) 12 12) (w.alloc (.cells (u8L (List.replicate 12 0)).toArray 5)):=make_bytes 12 (by decide) w
 have hB:Blk (w.alloc (.cells (u8L (List.replicate 12 0)).toArray 5)) w.heap.size 5 (u8L (List.replicate 12 0)):=Blk.new rfl rfl
 have hbe:Below w.heap.size w (w.alloc (.cells (u8L (List.replicate 12 0)).toArray 5)):=(Below.refl _ _).alloc (Nat.le_refl _) _
 obtain ⟨w1,hw1⟩:∃ x,w.alloc (.cells (u8L (List.replicate 12 0)).toArray 5)=x:=⟨_,rfl⟩
 rw[hw1] at hmk hB hbe
 have hR:Row w1 w.heap.size 5 1 (.slice (some ⟨w.heap.size,0,none⟩) 12 12) 12 (u8L (nought 12)):=Row.newB hB (Nat.le_refl _) (by decide)
 obtain ⟨ao,cap,h1,h2,h3,hcv⟩:=Row.strAny hR
 have HE:=hide hbe
 clear hw1 hB hR h1 h2 h3 hbe
 go_enter Tryz.func33,Tryz.ntmps33
 go_wp2
 go_ret
 exact ⟨rfl,HE.out⟩
theorem getD_take (T:List UInt8) {j i:Nat} (h:i<j):(T.take j).getD i 0=T.getD i 0:=by
 rw[List.getD_eq_getElem?_getD,List.getElem?_take,if_pos h,←List.getD_eq_getElem?_getD]
theorem Hd.line_take (T:List UInt8) (j:Nat):∀ i,i≤j→Hd.lineAt (T.take j) i=Hd.lineAt T i
 | 0,_=>rfl
 | i+1,h=>by
  show (if (T.take j).getD i 0=10 then i+1 else Hd.lineAt (T.take j) i)=(if T.getD i 0=10 then i+1 else Hd.lineAt T i)
  rw[Hd.line_take T j i (by omega),getD_take T (by omega)]
theorem Hd.whole_take (T:List UInt8) (m:Nat):Hd.wholeAt (T.take (m+1)) m↔Hd.wholeAt T m:=by
 unfold Hd.wholeAt
 rw[Hd.line_take T (m+1) m (by omega),getD_take T (by omega)]
 have hle:=Hd.lineAt_le T m
 constructor
 ·rintro ⟨h1,h2,h3⟩
  rw[List.drop_take,List.take_take,Nat.min_eq_left (by omega)] at h3
  exact ⟨h1,h2,h3⟩
 ·rintro ⟨h1,h2,h3⟩
  refine ⟨h1,h2,?_⟩
  rw[List.drop_take,List.take_take,Nat.min_eq_left (by omega)]
  exact h3
theorem getD_byte (t:ByteArray) (k:Nat) (hk:k<t.size):t.data.toList.getD k 0=t[k]:=by
 rw[List.getD_eq_getElem?_getD,List.getElem?_eq_getElem (by rw[ba_len];exact hk)]
 rfl
theorem whole_fin {t:ByteArray} {m:Nat} (h10:t.data.toList.getD m 0=10) (k:Nat) (hl:Hd.lineAt t.data.toList m=k) (bb:Bool) (hb:bb=decide (k+3≤m∧(t.data.toList.drop k).take 3=Hd.mark)):bb=decide (Hd.wholeAt t.data.toList m):=by
 have h:Hd.wholeAt t.data.toList m↔k+3≤m∧(t.data.toList.drop k).take 3=Hd.mark:=by unfold Hd.wholeAt;rw[h10,hl];simp
 rw[hb]
 by_cases h2:Hd.wholeAt t.data.toList m
 ·rw[decide_eq_true h2,decide_eq_true (h.1 h2)]
 ·rw[decide_eq_false h2,decide_eq_false (fun h3=>h2 (h.2 h3))]
set_option maxRecDepth 100000 in
set_option maxHeartbeats 1600000 in
theorem kwhole_any (t:ByteArray) (m:Nat) (w:World) (ht:t.size=m+1) (hm:m≤1000):
  Calls Tryz.prog 86 #[.string t] w fun e w'=>e = .returned (.bool (decide (Hd.wholeAt t.data.toList m)))∧w'=w:=by
 have hb:=getD_byte t
 obtain ⟨N,hN⟩:∃ N:Nat,t.size=N:=⟨_,rfl⟩
 have HN:=hide hN
 have z0:((N:Int)==0)=false:=beq_eq_false_iff_ne.2 (by omega)
 have n1:(N:Int)-1=(m:Int):=by omega
 have hmN:m<N:=by omega
 by_cases h10:t[m]=10
 ·have hX:t[m].toNat=10:=by rw[h10];rfl
  have HFIN:=hide (fun k hl bb hb'=>whole_fin (t:=t) (m:=m) (by rw[hb m (by omega),h10]) k hl bb hb')
  generalize decide (Hd.wholeAt t.data.toList m)=WB at HFIN ⊢
  have HEX:=hide (fun q=>show (t.extract q (q+3)).data.toList=(t.data.toList.drop q).take 3 by rw[sub_list,Nat.add_sub_cancel_left])
  have HB:=hide hb
  clear hb h10
  go_enter Tryz.func86,Tryz.ntmps86
  go_wp2
  go_loopw [4] (fun v wr=>wr=w∧∃ k:Nat,k≤m∧v = .int .i64 (k:Nat)∧Hd.lineAt t.data.toList m=Hd.lineAt t.data.toList k) (fun v _=>(intOf v).toNat)
  case atStart=>exact ⟨rfl,m,Nat.le_refl _,rfl,rfl⟩
  case round=>
   obtain ⟨rfl,k,hk,rfl,hlk⟩:=hrel
   have HLK:=hide hlk
   clear hlk
   obtain ⟨d,hd⟩:∃ d:Nat,d=m-k:=⟨_,rfl⟩
   have td:(m:Int)-(k:Int)=(d:Int):=by omega
   have HDD:=hide hd
   clear hd
   have HEX:=hide (HEX.out k)
   by_cases hk0:k=0
   ·subst hk0
    have hlm:Hd.lineAt t.data.toList m=0:=HLK.out
    by_cases h3:3≤d
    ·have j3:(3:Int)≤(d:Int):=by omega
     have j4:(0:Int)≤(0:Int)+3:=by omega
     have j5:(0:Int)+3≤(N:Int):=by omega
     by_cases hmk:(t.data.toList.drop 0).take 3=Hd.mark
     ·have he:t.extract 0 (0+3)=⟨#[45,45,45]⟩:=ba_ext (by rw[HEX.out,hmk];rfl)
      have HR:=hide (HFIN.out 0 hlm true (decide_eq_true (show 0+3≤m∧_ from ⟨by have:=HDD.out;omega,hmk⟩)).symm)
      clear hmk
      go_wp2
      go_ret
      exact ⟨by rw[←HR.out];rfl,rfl⟩
     ·have he:((t.extract 0 (0+3)).toList==[45,45,45])=false:=str_neL (by rw[HEX.out];exact hmk)
      have HR:=hide (HFIN.out 0 hlm false (decide_eq_false (show ¬ (0+3≤m∧_) from fun h=>hmk h.2)).symm)
      clear hmk
      go_wp2
      go_ret
      exact ⟨by rw[←HR.out];rfl,rfl⟩
    ·have j3:¬ (3:Int)≤(d:Int):=by omega
     have HR:=hide (HFIN.out 0 hlm false (decide_eq_false (show ¬ (0+3≤m∧_) from fun h=>by have:=h.1;have:=HDD.out;omega)).symm)
     go_wp2
     go_ret
     exact ⟨by rw[←HR.out];rfl,rfl⟩
   ·obtain ⟨p,hp⟩:∃ p:Nat,k=p+1:=⟨k-1,by omega⟩
    have tp:(k:Int)-1=(p:Int):=by omega
    have jk:(0:Int)<(k:Int):=by omega
    have hpN:p<N:=by omega
    have hpt:p<t.size:=by omega
    by_cases hp10:t[p]=10
    ·have hY:t[p].toNat=10:=by rw[hp10];rfl
     have hlm:Hd.lineAt t.data.toList m=k:=by
      rw[HLK.out,hp,Hd.lineAt,if_pos]
      rw[HB.out p hpt,hp10]
     clear hp10 hp
     by_cases h3:3≤d
     ·have j3:(3:Int)≤(d:Int):=by omega
      have j4:(k:Int)≤(k:Int)+3:=by omega
      have j5:(k:Int)+3≤(N:Int):=by omega
      by_cases hmk:(t.data.toList.drop k).take 3=Hd.mark
      ·have he:t.extract k (k+3)=⟨#[45,45,45]⟩:=ba_ext (by rw[HEX.out,hmk];rfl)
       have HR:=hide (HFIN.out k hlm true (decide_eq_true (show k+3≤m∧_ from ⟨by have:=HDD.out;omega,hmk⟩)).symm)
       clear hmk
       go_wp2
       go_ret
       exact ⟨by rw[←HR.out];rfl,rfl⟩
      ·have he:((t.extract k (k+3)).toList==[45,45,45])=false:=str_neL (by rw[HEX.out];exact hmk)
       have HR:=hide (HFIN.out k hlm false (decide_eq_false (show ¬ (k+3≤m∧_) from fun h=>hmk h.2)).symm)
       clear hmk
       go_wp2
       go_ret
       exact ⟨by rw[←HR.out];rfl,rfl⟩
     ·have j3:¬ (3:Int)≤(d:Int):=by omega
      have HR:=hide (HFIN.out k hlm false (decide_eq_false (show ¬ (k+3≤m∧_) from fun h=>by have:=h.1;have:=HDD.out;omega)).symm)
      go_wp2
      go_ret
      exact ⟨by rw[←HR.out];rfl,rfl⟩
    ·obtain ⟨Y,hY⟩:∃ Y:Nat,t[p].toNat=Y:=⟨_,rfl⟩
     have zY:((Y:Int)==10)=false:=beq_eq_false_iff_ne.2 (fun e=>hp10 (UInt8.toNat_inj.1 (by rw[hY];show Y=10;omega)))
     have zn:((Y:Int) != 10)=true:=by simp only[bne,zY];rfl
     have hnx:Hd.lineAt t.data.toList m=Hd.lineAt t.data.toList p:=by
      rw[HLK.out,hp,Hd.lineAt,if_neg]
      rw[HB.out p hpt]
      exact hp10
     have HNX:=hide hnx
     have HP:=hide hp
     clear hnx hp10 hp
     go_wp2
     go_roundw
     case rel=>
      (repeat apply Exists.intro)
      exact ⟨⟨trivial,p,by have:=HP.out;omega,rfl,HNX.out⟩,rfl⟩
     case measure=>have:=HP.out;simp[intOf];omega
 ·have hd:¬ Hd.wholeAt t.data.toList m:=fun h=>h10 (by rw[←hb m (by omega)];exact h.1)
  rw[decide_eq_false hd]
  obtain ⟨Y,hY⟩:∃ Y:Nat,t[m].toNat=Y:=⟨_,rfl⟩
  have zY:((Y:Int)==10)=false:=beq_eq_false_iff_ne.2 (fun e=>h10 (UInt8.toNat_inj.1 (by rw[hY];show Y=10;omega)))
  have zn:((Y:Int) != 10)=true:=by simp only[bne,zY];rfl
  clear hd hb h10
  go_enter Tryz.func86,Tryz.ntmps86
  go_wp2
  go_ret
  exact ⟨rfl,rfl⟩
def TopO (T:List UInt8) (r:Int):Prop:=(∃ k,k<T.length∧k<284∧Hd.wholeAt T k∧Hd.noneTo T k∧r=((k+1:Nat):Int))∨(Hd.noneTo T (min T.length 284)∧r = -1)
set_option maxRecDepth 100000 in
set_option maxHeartbeats 800000 in
theorem topOf_any (b:ByteArray) (w:World) (hb:b.size≤1099511627776):
  Calls Tryz.prog 52 #[.string b] w fun e w'=>∃ r,TopO b.data.toList r∧e = .returned (.int .i64 r)∧w'=w:=by
 obtain ⟨N,hN⟩:∃ N:Nat,b.size=N:=⟨_,rfl⟩
 have HN:=hide (show b.data.toList.length=N by rw[ba_len,hN])
 go_enter Tryz.func52,Tryz.ntmps52
 go_wp2
 go_loopw [3] (fun v wr=>wr=w∧∃ k:Nat,k≤284∧k≤N∧v = .int .i64 ((k+1:Nat):Int)∧Hd.noneTo b.data.toList k) (fun v _=>286-(intOf v).toNat)
 case atStart=>exact ⟨rfl,0,by decide,Nat.zero_le _,rfl,fun i hi=>absurd hi (Nat.not_lt_zero _)⟩
 case round=>
  obtain ⟨rfl,k,hk,hkN,rfl,hno⟩:=hrel
  have HNO:=hide hno
  clear hno
  obtain ⟨k1,hk1⟩:∃ k1:Nat,k1=k+1:=⟨_,rfl⟩
  rw[←hk1]
  by_cases hlt:k<N∧k<284
  ·have j1:(k1:Int)≤(N:Int):=by omega
   have j2:(k1:Int)≤284:=by omega
   have hxz:(b.extract 0 k1).size=k+1:=by rw[ByteArray.size_extract];omega
   have HWH:=hide (fun w=>kwhole_any (b.extract 0 k1) k w hxz (by omega))
   have HW2:=hide (show Hd.wholeAt (b.extract 0 k1).data.toList k↔Hd.wholeAt b.data.toList k by rw[ext_take,hk1];exact Hd.whole_take _ _)
   have HLT:=hide hlt
   have HK1:=hide hk1
   clear hlt hxz hk1
   by_cases hw:Hd.wholeAt b.data.toList k
   ·rw[decide_eq_true (HW2.out.2 hw)] at HWH
    have HW:=hide hw
    clear hw
    go_wp2_with fail
    refine (HWH.out _).mono ?_
    rintro e w1 ⟨rfl,rfl⟩
    clear HWH
    go_wp2
    go_ret
    exact ⟨_,.inl ⟨k,by rw[HN.out];exact HLT.out.1,HLT.out.2,HW.out,HNO.out,rfl⟩,by rw[←HK1.out];rfl,rfl⟩
   ·rw[decide_eq_false (fun h=>hw (HW2.out.1 h))] at HWH
    have HW:=hide hw
    clear hw
    go_wp2_with fail
    refine (HWH.out _).mono ?_
    rintro e w1 ⟨rfl,rfl⟩
    clear HWH
    go_wp2
    go_roundw
    case rel=>
     have h1:=HLT.out
     have h2:=HK1.out
     have hno:Hd.noneTo b.data.toList (k+1):=fun i hi=>by
      rcases Nat.lt_or_ge i k with h | h
      ·exact HNO.out i h
      ·obtain rfl:i=k:=by omega
       exact HW.out
     exact ⟨trivial,k+1,by omega,by omega,by rw[←h2];go_num,hno⟩
    case measure=>have:=HLT.out;have:=HK1.out;simp[intOf];omega
  ·have hmin:min N 284=k:=by omega
   have HM:=hide hmin
   by_cases h1:k<N
   ·have j1:(k1:Int)≤(N:Int):=by omega
    have j2:¬ (k1:Int)≤284:=by omega
    clear hmin hk1
    go_wp2
    go_ret
    exact ⟨-1,.inr ⟨by rw[HN.out,HM.out];exact HNO.out,rfl⟩,rfl,rfl⟩
   ·have j1:¬ (k1:Int)≤(N:Int):=by omega
    clear hmin hk1
    go_wp2
    go_ret
    exact ⟨-1,.inr ⟨by rw[HN.out,HM.out];exact HNO.out,rfl⟩,rfl,rfl⟩
theorem ext_drop (b:ByteArray) (a:Nat):(b.extract a b.size).data.toList=b.data.toList.drop a:=by rw[sub_list,List.take_of_length_le (by rw[List.length_drop,ba_len];exact Nat.le_refl _)]
theorem box_cut (b:ByteArray) (k:Nat) (hN:32*k≤b.size):(b.extract (32*k) b.size).size=b.size-32*k∧(b.extract (32*k) b.size).extract 0 32=⟨(Ref.boxI b.data.toList k).toArray⟩∧(b.extract (32*k) b.size).extract 32 (b.size-32*k)=b.extract (32*(k+1)) b.size:=by
 have hs:(b.extract (32*k) b.size).size=b.size-32*k:=by rw[ByteArray.size_extract];omega
 refine ⟨hs,?_,?_⟩
 ·apply ba_ext
  rw[ext_take,ext_drop]
  rfl
 ·apply ba_ext
  rw[sub_list,ext_drop,ext_drop,List.drop_drop,List.take_of_length_le (by rw[List.length_drop,ba_len];omega)]
  rfl
set_option maxRecDepth 100000 in
set_option maxHeartbeats 1600000 in
theorem boxes_any (b:ByteArray) (w:World) (hb:b.size≤34359738368):
  Calls Tryz.prog 55 #[.string b] w fun e w'=>∃ v,e = .returned v∧Row w' w.heap.size 9 1 v (Ref.boxN b.size) (strV (Ref.boxesL b.data.toList (Ref.boxN b.size)))∧Below w.heap.size w w':=by
 obtain ⟨N,hN⟩:∃ N:Nat,b.size=N:=⟨_,rfl⟩
 have hcut:=box_cut b
 rw[hN] at hcut hb ⊢
 have HCUT:=hide hcut
 have H0:=hide (show b=b.extract (32*0) N from ba_ext (by rw[sub_list,←hN,List.take_of_length_le (by rw[List.length_drop,ba_len];exact Nat.le_refl _)];rfl))
 have HLN:=hide (show b.data.toList.length=N by rw[ba_len,hN])
 clear hcut hN
 go_enter Tryz.func55,Tryz.ntmps55
 go_wp2
 go_loopw [0,3] (fun vb v wr=>∃ k:Nat,(k=0∨32*k<N)∧vb = .string (b.extract (32*k) N)∧Row wr w.heap.size 9 1 v k (strV (Ref.boxesL b.data.toList k))∧Below w.heap.size w wr) (fun vb _ _=>strLen vb)
 case atStart=>exact ⟨0,.inl rfl,by rw[←H0.out],Row.nil _ _ _ _,Below.refl _ _⟩
 case round=>
  clear H0
  obtain ⟨k,hk,rfl,hr,hbe⟩:=hrel
  have hkN:32*k≤N:=by omega
  obtain ⟨c1,c2,c3⟩:=HCUT.out k hkN
  have HR:=hide hr
  have HBE:=hide hbe
  have hsz:=hbe.size
  obtain ⟨ao,cap,rfl,hd1,hd2⟩:=Row.anyN hr
  unfold maxLen at hd2
  clear hr hbe
  by_cases hlt:32<N-32*k
  ·have j1:(32:Int)<((b.extract (32*k) N).size:Int):=by omega
   have j2:(32:Int)≤((b.extract (32*k) N).size:Int):=by omega
   rw[←c1] at c3
   have HNX:=hide (Ref.boxesL_succ b.data.toList k)
   have HC3:=hide c3
   have HLT:=hide hlt
   have HC1:=hide c1
   generalize hTX:b.extract (32*k) N=TX at *
   generalize (⟨(Ref.boxI b.data.toList k).toArray⟩:ByteArray)=BX at *
   clear c1 c3 hlt
   go_wp2_with (at_builtin;refine wpList_append_strB rfl (.tmp 7) (.tmp 10) rfl w.heap.size _ k _ rfl (HR.out.alloc _) wr.heap.size _ rfl (World.cell?_alloc_at _ _ _ _ rfl) ?_ ?_ ?_;omega;(simp;omega);intro v3 w3 hr3 hg3 hat3)
   go_roundw
   case rel=>
    have h1:=HLT.out
    refine ⟨k+1,by omega,by rw[HC3.out],?_,Below.grown (HBE.out.alloc hsz _) hg3 (by simp;omega) (fun k hk=>(HR.out.lt k hk).1)⟩
    rw[HNX.out]
    exact hr3
   case measure=>
    have h1:=HLT.out
    have h2:=HC1.out
    show strLen (.string (TX.extract 32 TX.size))<strLen (.string TX)
    show (TX.extract 32 TX.size).size<TX.size
    rw[ByteArray.size_extract]
    omega
  ·have j1:¬ (32:Int)<((b.extract (32*k) N).size:Int):=by omega
   by_cases h0:N-32*k=0
   ·have hN0:N=0:=by omega
    have hk0:k=0:=by omega
    have hTX:b.extract (32*k) N=ByteArray.empty:=ba_ext (by
     have h0:(b.extract (32*k) N).data.toList.length=0:=by rw[ba_len];omega
     rw[List.eq_nil_of_length_eq_zero h0]
     rfl)
    have HBN:=hide (show ∀ v,Row wr w.heap.size 9 1 v k (strV (Ref.boxesL b.data.toList k))→Row wr w.heap.size 9 1 v (Ref.boxN N) (strV (Ref.boxesL b.data.toList (Ref.boxN N))) from fun v h=>by rw[show Ref.boxN N=k by rw[hN0,hk0];rfl];exact h)
    rw[hTX]
    clear hTX c1 c2 c3 HCUT hN0 hk0 h0 hk
    go_wp2
    go_ret
    exact ⟨_,rfl,HBN.out _ HR.out,HBE.out⟩
   ·have zt:(b.extract (32*k) N).toList.isEmpty=false:=str_isne (fun e=>h0 (by
     have h0:(b.extract (32*k) N).data.toList.length=0:=by rw[e];rfl
     rw[ba_len] at h0
     omega))
    have HBN:=hide (show Ref.boxN N=k+1 by unfold Ref.boxN;omega)
    have hlast:b.extract (32*k) N=⟨(Ref.boxI b.data.toList k).toArray⟩:=by
     rw[←c2]
     exact ba_ext (by rw[ext_take,List.take_of_length_le (by rw[ba_len];omega)])
    have HNX:=hide (Ref.boxesL_succ b.data.toList k)
    rw[←hlast] at HNX
    generalize hTX:b.extract (32*k) N=TX at *
    clear hlast c1 c2 c3 HCUT
    go_wp2_with (at_builtin;refine wpList_append_strB rfl (.tmp 16) (.tmp 18) rfl w.heap.size _ k _ rfl (HR.out.alloc _) wr.heap.size _ rfl (World.cell?_alloc_at _ _ _ _ rfl) ?_ ?_ ?_;omega;(simp;omega);intro v3 w3 hr3 hg3 hat3)
    go_ret
    refine ⟨_,rfl,?_,Below.grown (HBE.out.alloc hsz _) hg3 (by simp;omega) (fun k hk=>(HR.out.lt k hk).1)⟩
    rw[HBN.out,HNX.out]
    exact hr3
theorem chunk_ext (t:ByteArray) (i:Nat):t.extract (16*i) (16*i+16)=⟨(Ref.chunkL t.data.toList i).toArray⟩:=ba_ext (by rw[sub_list,Nat.add_sub_cancel_left];rfl)
theorem chunk_end (t:ByteArray) (i:Nat) (h:t.size≤16*i+16):t.extract (16*i) t.size=⟨(Ref.chunkL t.data.toList i).toArray⟩:=ba_ext (by
 rw[sub_list]
 show _=(t.data.toList.drop (16*i)).take 16
 rw[List.take_of_length_le (by rw[List.length_drop,ba_len];exact Nat.le_refl _),List.take_of_length_le (by rw[List.length_drop,ba_len];omega)])
theorem chunk_void (t:ByteArray) (i:Nat) (h:t.size≤16*i):(⟨(Ref.chunkL t.data.toList i).toArray⟩:ByteArray)=⟨#[]⟩:=by
 unfold Ref.chunkL
 rw[List.drop_eq_nil_of_le (by rw[ba_len];exact h)]
 rfl
set_option maxHeartbeats 800000 in
theorem chunk_any (t:ByteArray) (i:Nat) (w:World) (ht:t.size≤1099511627776) (hi:i≤1099511627776):
  Calls Tryz.prog 75 #[.string t,.int .i64 (i:Nat)] w fun e w'=>e = .returned (.string ⟨(Ref.chunkL t.data.toList i).toArray⟩)∧w'=w:=by
 have hx1:=chunk_ext t i
 have hx2:=chunk_end t i
 have hx3:=chunk_void t i
 obtain ⟨p,hp⟩:∃ p:Nat,p=16*i:=⟨_,rfl⟩
 rw[←hp] at hx1 hx2 hx3
 have t1:(i:Int)*16=(p:Int):=by omega
 have hpb:p≤17592186044416:=by omega
 obtain ⟨N,hN⟩:∃ N:Nat,t.size=N:=⟨_,rfl⟩
 rw[hN] at hx2 hx3 ht
 by_cases h1:N<p
 ·have j1:(N:Int)<(p:Int):=by omega
  have j2:(N:Int)<(N:Int)+16:=by omega
  have hnn:t.extract N N=⟨#[]⟩:=ba_ext (by rw[sub_list,Nat.sub_self];rfl)
  have HX:=hide (hx3 (by omega))
  rw[HX.out]
  clear hx1 hx2 hx3 HX hp hi
  go_enter Tryz.func75,Tryz.ntmps75
  go_wp2
  go_ret
  first
   | exact ⟨rfl,rfl⟩
   | exact ⟨by rw[hnn],rfl⟩
 ·have j1:¬ (N:Int)<(p:Int):=by omega
  obtain ⟨q,hq⟩:∃ q:Nat,q=p+16:=⟨_,rfl⟩
  have t2:(p:Int)+16=(q:Int):=by omega
  by_cases h2:N<q
  ·have j2:(N:Int)<(q:Int):=by omega
   have j3:(p:Int)≤(N:Int):=by omega
   have HX:=hide (hx2 (by omega))
   clear hx1 hx2 hx3 hp hi hq
   go_enter Tryz.func75,Tryz.ntmps75
   go_wp2
   go_ret
   exact ⟨by rw[←HX.out];rfl,rfl⟩
  ·have j2:¬ (N:Int)<(q:Int):=by omega
   have j3:(p:Int)≤(q:Int):=by omega
   have j4:(q:Int)≤(N:Int):=by omega
   rw[←hq] at hx1
   have HX:=hide hx1
   clear hx1 hx2 hx3 hp hi hq
   go_enter Tryz.func75,Tryz.ntmps75
   go_wp2
   go_ret
   exact ⟨by rw[←HX.out];rfl,rfl⟩
end Go.Proofs.YtoifalcpfnacnaaGreatDoor
