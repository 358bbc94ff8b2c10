import Derived.Test.YtoifalcpfnacnaaGreatDoorBe9
namespace Go.Proofs.YtoifalcpfnacnaaGreatDoor
open Go.RowKit
def rdCells (src:Value) (key:ByteArray) (n:Nat) (ahead text:ByteArray) (e:Int):List Value:=[src,.string key,.int .u64 (n:Nat),.string ahead,.string text,.int .i64 e]
theorem res_none {fn:Func} (h:fn.results = #[]) (tmps:Array Value) (P:Program) (w:World):(results fn tmps).run P w = .ok (.tuple #[]) w:=by simp[results,h]
theorem infoRd:(Tryz.prog.info? 118).map (·.size)=some 6:=by kernel_rfl
theorem rd_one (text:ByteArray) (e:Int):((rdCells (.pointer none) ⟨#[]⟩ 0 ⟨#[]⟩ text e).toArray).all (·.oneCell')=true:=by simp[rdCells,Value.oneCell']
set_option maxRecDepth 100000 in
set_option maxHeartbeats 1600000 in
theorem finishR_any (rb:Nat) (old:List Value) (text:ByteArray) (e:Int) (w:World) (hB:Blk w rb 118 old) (hl:old.length=6):
  Calls Tryz.prog 95 #[.pointer (some ⟨rb,0,none⟩),.string text,.int .i64 e] w fun _e w'=>(∃ v,_e = .returned v)∧Blk w' rb 118 (rdCells (.pointer none) ⟨#[]⟩ 0 ⟨#[]⟩ text e)∧w.grownBy w' (some rb):=by
 have HB:=hide hB
 have HL:=hide hl
 clear hB hl
 go_enter Tryz.func95,Tryz.ntmps95
 go_wp2_with (refine wpList_store_blk rfl 118 (.tmp 10) (.tmp 9) rfl rb 0 (rdCells (.pointer none) ⟨#[]⟩ 0 ⟨#[]⟩ text e).toArray rfl rfl infoRd (rd_one text e) 118 old HB.out (by rw[HL.out];exact Nat.le_refl 6) ?_;intro wz hBz hGz)
 refine bodyPost_end (v:=.tuple #[]) (by simp[results,Tryz.results95]) rfl ?_
 refine ⟨⟨_,rfl⟩,?_,hGz⟩
 rw[laidOver_all _ _ (by rw[HL.out];rfl)] at hBz
 exact hBz
def lastCells (o:List UInt8 × Int):List Value:=if o.2≠0 then rdCells (.pointer none) ⟨#[]⟩ 0 ⟨#[]⟩ ⟨#[]⟩ o.2 else rdCells (.pointer none) ⟨#[]⟩ 0 ⟨#[]⟩ ⟨o.1.toArray⟩ 13
set_option maxRecDepth 100000 in
set_option maxHeartbeats 3200000 in
theorem openLast_any (rb:Nat) (src:Value) (key:ByteArray) (n:Nat) (ahead text:ByteArray) (e0:Int) (bx:ByteArray) (w:World) (hB:Blk w rb 118 (rdCells src key n ahead text e0)) (hk:key.size=32) (hn:n≤1125899906842624) (hb:bx.size≤1000):
  Calls Tryz.prog 96 #[.pointer (some ⟨rb,0,none⟩),.string bx] w fun e w'=>(∃ v,e = .returned v)∧Blk w' rb 118 (lastCells (Ref.opnC key.data.toList n true bx.data.toList))∧w.grownBy w' (some rb):=by
 have HOC:=hide (fun w=>openChunk_any key n true bx w hk hn (by omega))
 have hrl:=hB.lt
 have HB:=hide hB
 have c1:=hB.cell (i:=1) rfl
 have c2:=hB.cell (i:=2) rfl
 unfold ansV at HOC
 generalize Ref.opnC key.data.toList n true bx.data.toList=op at *
 obtain ⟨ot,oe⟩:=op
 simp only at HOC
 clear hB hk hb
 go_enter Tryz.func96,Tryz.ntmps96
 go_wp2
 go_region_held3 (fun w'=>w'.cell? ⟨rb,1,none⟩=some (.string key)∧w'.cell? ⟨rb,2,none⟩=some (.int .u64 (n:Nat))) (refine ⟨?_,?_⟩ <;> first | assumption | (exact (hb2.cell hrl).trans (by assumption))) ((go_at_call 97;refine (HOC.out _).mono ?_;rintro e w2 ⟨rfl,hb2⟩))
 rename_i hH
 clear hH
 have hbd:Below w.heap.size w w2:=(show Below w.heap.size w w.drew from ⟨rfl,rfl,rfl,Nat.le_refl _,fun _ _=>rfl⟩).trans hb2
 have HB2:=hide (HB.out.below hbd hrl)
 have G2:=hide (grown_below (World.grownBy.refl w (some rb)) hbd)
 clear hb2 hbd HB HOC c1 c2
 by_cases hoe:oe=0
 ·subst hoe
  have HF:=hide (finishR_any rb _ ⟨ot.toArray⟩ 13 w2 HB2.out rfl)
  generalize hbt:(⟨ot.toArray⟩:ByteArray)=bt at *
  go_wp2_with fail
  refine HF.out.mono ?_
  rintro e w3 ⟨⟨v3,rfl⟩,hB3,hG3⟩
  have HB3:=hide hB3
  have G3:=hide (grown_trans G2.out hG3 (fun k hk=>.inr (by injection hk with hk;exact hk.symm)))
  clear HF hB3 hG3 HB2 G2
  go_wp2
  first | refine bodyPost_ret (res_none Tryz.results96 _ _ _) rfl ?_ | refine bodyPost_end (res_none Tryz.results96 _ _ _) rfl ?_
  refine ⟨⟨_,rfl⟩,?_,G3.out⟩
  unfold lastCells
  rw[if_neg (by simp),hbt]
  exact HB3.out
 ·have z1:(oe != 0)=true:=by rw[bne_iff_ne];exact hoe
  have HF:=hide (finishR_any rb _ ⟨#[]⟩ oe w2 HB2.out rfl)
  have HOE:=hide hoe
  generalize (⟨ot.toArray⟩:ByteArray)=bt at *
  clear hoe
  go_wp2_with fail
  refine HF.out.mono ?_
  rintro e w3 ⟨⟨v3,rfl⟩,hB3,hG3⟩
  have HB3:=hide hB3
  have G3:=hide (grown_trans G2.out hG3 (fun k hk=>.inr (by injection hk with hk;exact hk.symm)))
  clear HF hB3 hG3 HB2 G2
  go_wp2
  first | refine bodyPost_ret (res_none Tryz.results96 _ _ _) rfl ?_ | refine bodyPost_end (res_none Tryz.results96 _ _ _) rfl ?_
  refine ⟨⟨_,rfl⟩,?_,G3.out⟩
  unfold lastCells
  rw[if_pos HOE.out]
  exact HB3.out
theorem gather_two (b g:Nat) (x:Src) (got:ByteArray) (n:Nat) (w:World) (h:SrcRep b g x w) (hgot:got.size≤n) (hn:n≤1000):
  Calls Tryz.prog 60 #[.pointer (some ⟨b,0,none⟩),.string got,.int .i64 (n:Nat)] w fun e w'=>
   ∃ y c gs ge,Src.Ask x (n-got.size) y c∧e = .returned (.tuple #[.string gs,.int .i64 ge])∧SrcRep b g y w'∧w.grownBy w' (some b)∧(c=2→gs=⟨#[]⟩∧ge=17)∧(c≠2→gs=gotS got x y∧ge=0):=by
 refine (gather_any b g x got n w h hgot hn).mono ?_
 rintro e w' ⟨y,c,hA,rfl,hS,hG⟩
 exact ⟨y,c,_,_,hA,rfl,hS,hG,fun h=>by rw[if_pos h,if_pos h];exact ⟨rfl,rfl⟩,fun h=>by rw[if_neg h,if_neg h];exact ⟨rfl,rfl⟩⟩
structure RdRep (rb b:Nat) (r:Ref.Rd) (w:World):Prop where
 hb:Blk w rb 118 (rdCells (if r.e=0 then .pointer (some ⟨b,0,none⟩) else .pointer none) ⟨r.key.toArray⟩ r.n ⟨r.ahead.toArray⟩ ⟨r.text.toArray⟩ r.e)
 ok:r.e=0→r.key.length=32∧r.ahead.length≤1
 tx:r.text.length≤1000
theorem SrcRep.after {b g:Nat} {x:Src} {w w':World} (h:SrcRep b g x w) (hb:Below w.heap.size w w'):SrcRep b g x w':=⟨h.hb.below hb h.hb.lt,h.hg.below hb h.hg.lt,h.sz,h.at_,h.pl,h.st⟩
theorem SrcRep.keep {b g rb:Nat} {x:Src} {w w':World} (h:SrcRep b g x w) (hg:w.grownBy w' (some rb)) (hrb:rb≠b) (hrg:rb≠g):SrcRep b g x w':=⟨h.hb.grown hg (fun e=>hrb (by injection e with e;exact e.symm)),h.hg.grown hg (fun e=>hrg (by injection e with e;exact e.symm)),h.sz,h.at_,h.pl,h.st⟩
set_option maxRecDepth 100000 in
set_option maxHeartbeats 6400000 in
theorem openNext_any (rb b g:Nat) (r:Ref.Rd) (w:World) (hR:RdRep rb b r w) (hS:SrcRep b g r.x w) (hrb:rb≠b) (hrg:rb≠g) (he:r.e=0) (ht:r.text=[]) (hn:r.n<1125899906842624):
  Calls Tryz.prog 61 #[.pointer (some ⟨rb,0,none⟩)] w fun e w'=>(∃ v,e = .returned v)∧∃ y c,Src.Ask r.x (33-r.ahead.length) y c∧RdRep rb b (r.opn y c) w'∧SrcRep b g y w'∧Chg (fun x=>x=rb∨x=b) w w':=by
 obtain ⟨hB,hok,_⟩:=hR
 obtain ⟨hkl,hal⟩:=hok he
 rw[if_pos he,he,ht] at hB
 have hrl:=hB.lt
 have hdr:Below w.heap.size w w.drew:=⟨rfl,rfl,rfl,Nat.le_refl _,fun _ _=>rfl⟩
 have hSd:SrcRep b g r.x w.drew:=⟨hS.hb.below hdr hS.hb.lt,hS.hg.below hdr hS.hg.lt,hS.sz,hS.at_,hS.pl,hS.st⟩
 have haz:(⟨r.ahead.toArray⟩:ByteArray).size=r.ahead.length:=two_size _
 have hkz:(⟨r.key.toArray⟩:ByteArray).size=32:=by rw[two_size,hkl]
 have HGA:=hide (gather_two b g r.x ⟨r.ahead.toArray⟩ 33 w.drew hSd (by rw[haz];omega) (by decide))
 rw[haz] at HGA
 have HB:=hide hB
 have c0:=hB.cell (i:=0) rfl
 have c3:=hB.cell (i:=3) rfl
 have HXA:=hide hS.at_
 have HAL:=hide hal
 have HN:=hide hn
 have HAZ:=hide haz
 have HE:=hide he
 have hgot:∀ y:Src,(gotS ⟨r.ahead.toArray⟩ r.x y).data.toList=r.ahead++(r.x.s.extract r.x.at_ y.at_).data.toList:=fun y=>by unfold gotS;rw[ba_list]
 have HGOT:=hide hgot
 generalize hah:(⟨r.ahead.toArray⟩:ByteArray)=ah at *
 clear hB hS hSd hok he ht hdr hgot hal
 go_enter Tryz.func61,Tryz.ntmps61
 go_wp2
 go_region_held3 (fun w'=>w'.cell? ⟨rb,0,none⟩=some (.pointer (some ⟨b,0,none⟩))∧w'.cell? ⟨rb,3,none⟩=some (.string ah)) (refine ⟨?_,?_⟩ <;> first | assumption | (exact World.grownBy.cell hG2 (by assumption) (fun e=>hrb (by injection e)))) ((go_at_call 60;refine HGA.out.mono ?_;rintro e w2 ⟨y,c,gs,ge,hA,rfl,hS2,hG2,hg2,hgn⟩))
 rename_i hH
 clear hH
 have hbd:w.grownBy w2 (some b):=below_grown (show Below w.heap.size w w.drew from ⟨rfl,rfl,rfl,Nat.le_refl _,fun _ _=>rfl⟩) hG2
 have HB2:=hide (HB.out.grown hbd (fun e=>hrb (by injection e)))
 have L:=hA.left HXA.out
 have C2:=hide (Chg.of_grown (S:=fun x=>x=rb∨x=b) hbd (.inr rfl))
 have HA:=hide hA
 have HS2:=hide hS2
 have hge:=L.ge
 have hsz:=L.size
 rw[L.s] at hsz
 have hle:=L.le
 have hcode:=L.code
 have hgs:=gotS_size (got:=ah) hge hsz
 rw[HAZ.out] at hgs
 clear hA hS2 hG2 hbd HGA HB c0 c3 L
 by_cases hc2:c=2
 ·subst hc2
  obtain ⟨rfl,rfl⟩:=hg2 rfl
  have HF:=hide (finishR_any rb _ ⟨#[]⟩ 17 w2 HB2.out rfl)
  clear hgs
  go_wp2_with fail
  refine HF.out.mono ?_
  rintro e w3 ⟨⟨v3,rfl⟩,hB3,hG3⟩
  have HB3:=hide hB3
  have C3:=hide (C2.out.grew hG3 (.inl (.inl rfl)))
  have HS3:=hide (SrcRep.keep HS2.out hG3 hrb hrg)
  clear HF hB3 hG3 HB2 C2 HS2
  go_wp2
  first | refine bodyPost_ret (res_none Tryz.results61 _ _ _) rfl ?_ | refine bodyPost_end (res_none Tryz.results61 _ _ _) rfl ?_
  refine ⟨⟨_,rfl⟩,y,2,HA.out,?_,HS3.out,C3.out⟩
  unfold Ref.Rd.opn
  rw[if_pos rfl]
  exact ⟨HB3.out,fun h=>absurd (show (17:Int)=0 from h) (by decide),Nat.zero_le _⟩
 ·obtain ⟨rfl,rfl⟩:=hgn hc2
  obtain ⟨Q,hQ⟩:∃ q:Nat,r.ahead.length+(y.at_-r.x.at_)=q:=⟨_,rfl⟩
  have hopn:r.opn y c=if Q=0 then ⟨y,[],0,[],[],10⟩
   else if Q≤32 then (if (Ref.opnC r.key r.n true (gotS ah r.x y).data.toList).2≠0 then ⟨y,[],0,[],[],(Ref.opnC r.key r.n true (gotS ah r.x y).data.toList).2⟩ else ⟨y,[],0,[],(Ref.opnC r.key r.n true (gotS ah r.x y).data.toList).1,13⟩)
   else if (Ref.opnC r.key r.n false ((gotS ah r.x y).data.toList.take 32)).2≠0 then ⟨y,[],0,[],[],(Ref.opnC r.key r.n false ((gotS ah r.x y).data.toList.take 32)).2⟩
   else ⟨y,r.key,r.n+1,(gotS ah r.x y).data.toList.drop 32,(Ref.opnC r.key r.n false ((gotS ah r.x y).data.toList.take 32)).1,0⟩:=by
   rw[HGOT.out y,←hQ]
   show Ref.Rd.opn r y c=_
   unfold Ref.Rd.opn
   rw[if_neg hc2]
  rw[hQ] at hgs
  have hQ33:Q≤33:=by have:=HAL.out;omega
  have HOPN:=hide hopn
  generalize gotS ah r.x y=GT at *
  clear hopn hQ hc2
  by_cases hq0:Q=0
  ·have hGT:GT=ByteArray.empty:=ba_ext (by
    have h0:GT.data.toList.length=0:=by rw[ba_len];omega
    rw[List.eq_nil_of_length_eq_zero h0]
    rfl)
   subst hGT
   have HF:=hide (finishR_any rb _ ⟨#[]⟩ 10 w2 HB2.out rfl)
   have HQ0:=hide hq0
   clear hgs hq0
   go_wp2_with fail
   refine HF.out.mono ?_
   rintro e w3 ⟨⟨v3,rfl⟩,hB3,hG3⟩
   have HB3:=hide hB3
   have C3:=hide (C2.out.grew hG3 (.inl (.inl rfl)))
   have HS3:=hide (SrcRep.keep HS2.out hG3 hrb hrg)
   clear HF hB3 hG3 HB2 C2 HS2
   go_wp2
   first | refine bodyPost_ret (res_none Tryz.results61 _ _ _) rfl ?_ | refine bodyPost_end (res_none Tryz.results61 _ _ _) rfl ?_
   refine ⟨⟨_,rfl⟩,y,c,HA.out,?_,HS3.out,C3.out⟩
   rw[HOPN.out,if_pos HQ0.out]
   exact ⟨HB3.out,fun h=>absurd (show (10:Int)=0 from h) (by decide),Nat.zero_le _⟩
  ·have zg:GT.toList.isEmpty=false:=str_isne (fun e=>hq0 (by
    have h0:GT.data.toList.length=0:=by rw[e];rfl
    rw[ba_len] at h0
    omega))
   by_cases hq32:Q≤32
   ·have jq:(GT.size:Int)≤32:=by omega
    have HOL:=hide (openLast_any rb _ ⟨r.key.toArray⟩ r.n ah ⟨#[]⟩ 0 GT w2 HB2.out hkz (by have:=HN.out;omega) (by omega))
    rw[two_toList] at HOL
    have HQ:=hide (And.intro hq0 hq32)
    clear hq0 hq32
    go_wp2_with fail
    refine HOL.out.mono ?_
    rintro e w3 ⟨⟨v3,rfl⟩,hB3,hG3⟩
    have HB3:=hide hB3
    have C3:=hide (C2.out.grew hG3 (.inl (.inl rfl)))
    have HS3:=hide (SrcRep.keep HS2.out hG3 hrb hrg)
    have hoc:=Ref.opnC_cases r.key r.n true GT.data.toList
    have HOC:=hide hoc
    clear HOL hB3 hG3 HB2 C2 HS2 hoc
    go_wp2
    first | refine bodyPost_ret (res_none Tryz.results61 _ _ _) rfl ?_ | refine bodyPost_end (res_none Tryz.results61 _ _ _) rfl ?_
    refine ⟨⟨_,rfl⟩,y,c,HA.out,?_,HS3.out,C3.out⟩
    rw[HOPN.out,if_neg HQ.out.1,if_pos HQ.out.2]
    have hB3:=HB3.out
    unfold lastCells at hB3
    have hglen:GT.data.toList.length≤33:=by rw[ba_len];omega
    rcases HOC.out with ⟨h0,h1,_,_⟩ | ⟨h0,h1⟩
    ·rw[if_neg (by rw[h0];simp)] at hB3 ⊢
     exact ⟨hB3,fun h=>absurd (show (13:Int)=0 from h) (by decide),by show (Ref.opnC r.key r.n true GT.data.toList).1.length≤1000;omega⟩
    ·rw[if_pos h0] at hB3 ⊢
     refine ⟨?_,fun h=>absurd h h0,by show 0≤1000;decide⟩
     show Blk _ _ _ (rdCells (if (Ref.opnC r.key r.n true GT.data.toList).2=0 then _ else _) _ _ _ _ _)
     rw[if_neg h0]
     exact hB3
   ·have hq33:Q=33:=by omega
    have jq:¬ (GT.size:Int)≤32:=by omega
    have j32:(32:Int)≤(GT.size:Int):=by omega
    have hx32:(GT.extract 0 32).size≤1000:=by rw[ByteArray.size_extract];omega
    have HOC:=hide (fun w=>openChunk_any ⟨r.key.toArray⟩ r.n false (GT.extract 0 32) w hkz (by have:=HN.out;omega) (by omega))
    rw[two_toList,ext_take] at HOC
    unfold ansV at HOC
    have hoc:=Ref.opnC_cases r.key r.n false (GT.data.toList.take 32)
    have hl32:(GT.data.toList.take 32).length=32:=by rw[List.length_take,ba_len];omega
    rw[hl32] at hoc
    have HQ:=hide (And.intro hq0 hq32)
    have d1:=HB2.out.cell (i:=1) rfl
    have d2:=HB2.out.cell (i:=2) rfl
    generalize Ref.opnC r.key r.n false (GT.data.toList.take 32)=op at *
    obtain ⟨ot,oe⟩:=op
    simp only at HOC hoc HOPN
    have hrl2:rb<w2.heap.size:=HB2.out.lt
    have hkk:=hide (show (⟨r.key.toArray⟩:ByteArray).data.toList=r.key from two_toList _)
    have HKL:=hide hkl
    generalize hkb:(⟨r.key.toArray⟩:ByteArray)=kb at *
    clear hq0 hq32 hl32 hkk
    go_wp2
    go_region_held3 (fun w'=>w'.cell? ⟨rb,1,none⟩=some (.string kb)∧w'.cell? ⟨rb,2,none⟩=some (.int .u64 (r.n:Nat))) (refine ⟨?_,?_⟩ <;> first | assumption | (exact (hb3.cell hrl2).trans (by assumption))) ((go_at_call 97;refine (HOC.out _).mono ?_;rintro e w3 ⟨rfl,hb3⟩))
    rename_i hH
    clear hH
    have hbd3:Below w2.heap.size w2 w3:=(show Below w2.heap.size w2 w2.drew from ⟨rfl,rfl,rfl,Nat.le_refl _,fun _ _=>rfl⟩).trans hb3
    have HB3:=hide (HB2.out.below hbd3 hrl2)
    have HS3:=hide (SrcRep.after HS2.out hbd3)
    have C3:=hide (C2.out.trans (Chg.of_below hbd3))
    clear hb3 hbd3 HB2 HS2 C2 HOC d1 d2
    rcases hoc with ⟨rfl,h1,_,_⟩ | ⟨h0,rfl⟩
    ·have hot:ot.length≤1000:=by omega
     have HOT:=hide hot
     generalize hbt:(⟨ot.toArray⟩:ByteArray)=bt at *
     obtain ⟨n1,hn1⟩:∃ n1:Nat,n1=r.n+1:=⟨_,rfl⟩
     have hnn:=HN.out
     have t1:((r.n:Int)+1)%18446744073709551616=(n1:Int):=by omega
     have t2:(r.n:Int)+1=(n1:Int):=by omega
     have t3:(n1:Int)%18446744073709551616=(n1:Int):=by omega
     have f3:=HB3.out.frozen
     have e2:((w3.setCell ⟨rb,4,none⟩ (.string bt)).setCell ⟨rb,3,none⟩ (.string (GT.extract 32 33))).cell? ⟨rb,2,none⟩=some (.int .u64 (r.n:Nat)):=((HB3.out.setCell_same 4 (.string bt)).setCell_same 3 (.string (GT.extract 32 33))).cell (i:=2) rfl
     have HB4:=hide (((HB3.out.setCell_same 4 (.string bt)).setCell_same 3 (.string (GT.extract 32 33))).setCell_same 2 (.int .u64 (n1:Nat)))
     have hG4:=((((World.grownBy.refl w3 (some rb)).setCell 4 (.string bt)).setCell 3 (.string (GT.extract 32 33))).setCell 2 (.int .u64 (n1:Nat)))
     have HS4:=hide (SrcRep.keep HS3.out hG4 hrb hrg)
     have C4:=hide (C3.out.grew hG4 (.inl (.inl rfl)))
     have HN1:=hide hn1
     have c3:=HB3.out.cell (i:=3) rfl
     have c4:=HB3.out.cell (i:=4) rfl
     have c2:=HB3.out.cell (i:=2) rfl
     clear hG4 HB3 HS3 C3 hn1 h1 hot hnn
     go_wp2
     first | refine bodyPost_ret (res_none Tryz.results61 _ _ _) rfl ?_ | refine bodyPost_end (res_none Tryz.results61 _ _ _) rfl ?_
     refine ⟨⟨_,rfl⟩,y,c,HA.out,?_,HS4.out,C4.out⟩
     rw[HOPN.out,if_neg HQ.out.1,if_neg HQ.out.2,if_neg (by decide)]
     refine ⟨?_,fun _=>⟨HKL.out,?_⟩,HOT.out⟩
     ·have h:=HB4.out
      show Blk _ _ _ (rdCells (.pointer (some ⟨b,0,none⟩)) ⟨r.key.toArray⟩ (r.n+1) ⟨(GT.data.toList.drop 32).toArray⟩ ⟨ot.toArray⟩ 0)
      rw[←HN1.out,hkb,hbt,show (⟨(GT.data.toList.drop 32).toArray⟩:ByteArray)=GT.extract 32 33 from ba_ext (by rw[sub_list,two_toList,List.take_of_length_le (by rw[List.length_drop,ba_len];omega)])]
      exact h
     ·show (GT.data.toList.drop 32).length≤1
      rw[List.length_drop,ba_len]
      omega
    ·have z1:(oe != 0)=true:=by rw[bne_iff_ne];exact h0
     have HF:=hide (finishR_any rb _ ⟨#[]⟩ oe w3 HB3.out rfl)
     have HOE:=hide h0
     clear h0
     go_wp2_with fail
     refine HF.out.mono ?_
     rintro e w4 ⟨⟨v4,rfl⟩,hB4,hG4⟩
     have HB4:=hide hB4
     have C4:=hide (C3.out.grew hG4 (.inl (.inl rfl)))
     have HS4:=hide (SrcRep.keep HS3.out hG4 hrb hrg)
     clear HF hB4 hG4 HB3 C3 HS3
     go_wp2
     first | refine bodyPost_ret (res_none Tryz.results61 _ _ _) rfl ?_ | refine bodyPost_end (res_none Tryz.results61 _ _ _) rfl ?_
     refine ⟨⟨_,rfl⟩,y,c,HA.out,?_,HS4.out,C4.out⟩
     rw[HOPN.out,if_neg HQ.out.1,if_neg HQ.out.2,if_pos HOE.out]
     refine ⟨?_,fun h=>absurd h HOE.out,by show 0≤1000;decide⟩
     show Blk _ _ _ (rdCells (if oe=0 then _ else _) _ _ _ _ _)
     rw[if_neg HOE.out]
     exact HB4.out
def ReadP (rb b g:Nat) (r:Ref.Rd) (n:Nat) (w:World) (e:Ending) (w':World):Prop:=∃ r1,Ref.Rd.Fill r r1∧e = .returned (.tuple #[.string ⟨(r1.ans n).1.toArray⟩,.int .i64 (r1.ans n).2])∧RdRep rb b (r1.tell n) w'∧SrcRep b g r1.x w'∧Chg (fun x=>x=rb∨x=b) w w'
theorem RdRep.after {rb b:Nat} {r:Ref.Rd} {w w':World} (h:RdRep rb b r w) (hb:Below w.heap.size w w'):RdRep rb b r w':=⟨h.hb.below hb h.hb.lt,h.ok,h.tx⟩
theorem RdRep.set {rb b:Nat} {r:Ref.Rd} {w:World} (h:RdRep rb b r w) (n:Nat):RdRep rb b (r.tell n) (w.setCell ⟨rb,4,none⟩ (.string ⟨(r.text.drop n).toArray⟩)):=
 ⟨h.hb.setCell_same 4 _,h.ok,by show (r.text.drop n).length≤1000;rw[List.length_drop];have:=h.tx;omega⟩
theorem Rd.tell_nil {r:Ref.Rd} (h:r.text=[]) (n:Nat):r.tell n=r:=by
 obtain ⟨x,key,m,ah,tx,e⟩:=r
 simp only at h
 subst h
 unfold Ref.Rd.tell
 simp
theorem read_end {rb b g:Nat} {r r1:Ref.Rd} {n:Nat} {w w1:World} (hf:Ref.Rd.Fill r r1) (hR:RdRep rb b r1 w1) (hS:SrcRep b g r1.x w1) (hC:Chg (fun x=>x=rb∨x=b) w w1) (hrb:rb≠b) (hrg:rb≠g) (ht:r1.text≠[]) {tk td:ByteArray} (htk:tk.data.toList=r1.text.take n) (htd:td.data.toList=r1.text.drop n):
  ReadP rb b g r n w (.returned (.tuple #[.string tk,.int .i64 0])) (w1.setCell ⟨rb,4,none⟩ (.string td)):=by
 have e1:tk=⟨(r1.text.take n).toArray⟩:=ba_ext htk
 have e2:td=⟨(r1.text.drop n).toArray⟩:=ba_ext htd
 subst e1
 subst e2
 have hG:=((World.grownBy.refl w1 (some rb)).setCell 4 (.string ⟨(r1.text.drop n).toArray⟩))
 have ha:r1.ans n=(r1.text.take n,0):=if_neg ht
 exact ⟨r1,hf,by rw[ha],hR.set n,SrcRep.keep hS hG hrb hrg,hC.grew hG (.inl (.inl rfl))⟩
set_option maxRecDepth 100000 in
set_option maxHeartbeats 6400000 in
theorem read_any (rb b g:Nat) (r:Ref.Rd) (n:Nat) (w:World) (hR:RdRep rb b r w) (hS:SrcRep b g r.x w) (hrb:rb≠b) (hrg:rb≠g) (hn:r.n<1125899906842624) (h0:0<n) (hn2:n≤9223372036854775807):
  Calls Tryz.prog 30 #[.pointer (some ⟨rb,0,none⟩),.int .i64 (n:Nat)] w (ReadP rb b g r n w):=by
 have j0:¬ (n:Int)<0:=by omega
 have z0:((n:Int)==0)=false:=beq_eq_false_iff_ne.2 (by omega)
 by_cases hA:r.text=[]∧r.e=0
 ·obtain ⟨ht,he⟩:=hA
  have HON:=hide (openNext_any rb b g r w hR hS hrb hrg he ht hn)
  have c4:=hR.hb.cell (i:=4) rfl
  have c5:=hR.hb.cell (i:=5) rfl
  rw[ht] at c4
  rw[he] at c5
  have HT:=hide ht
  have HE:=hide he
  clear hR hS ht he hn
  go_enter Tryz.func30,Tryz.ntmps30
  go_wp2_with fail
  refine HON.out.mono ?_
  rintro e w1 ⟨⟨v1,rfl⟩,y,c,hAsk,hR1,hS1,hC1⟩
  have hx:(r.opn y c).x=y:=Ref.Rd.opn_x r y c
  have HFI:=hide (Ref.Rd.Fill.opn r y c HT.out HE.out hAsk)
  have hS1':SrcRep b g (r.opn y c).x w1:=by rw[hx];exact hS1
  clear c4 c5 HON hx hS1 HT HE hAsk
  generalize r.opn y c=r1 at *
  have R1:=hide hR1
  have S1:=hide hS1'
  have C1:=hide hC1
  have c4:=hR1.hb.cell (i:=4) rfl
  have c5:=hR1.hb.cell (i:=5) rfl
  have f1:=hR1.hb.frozen
  clear hR1 hS1' hC1
  by_cases ht1:r1.text=[]
  ·have HAN:=hide (show r1.ans n=([],r1.e) from if_pos ht1)
   rw[ht1] at c4
   have HT1:=hide ht1
   clear ht1
   go_wp2
   go_region
   go_wp2
   refine bodyPost_ret (results_tmp2 rfl _ _ _) rfl ?_
   refine ⟨r1,HFI.out,by rw[HAN.out];rfl,?_,SrcRep.after S1.out (below_drewN (Below.refl _ _) 1),C1.out.trans (Chg.of_below (below_drewN (Below.refl _ _) 1))⟩
   rw[Rd.tell_nil HT1.out]
   exact RdRep.after R1.out (below_drewN (Below.refl _ _) 1)
  ·have zt:=ba_cons ht1
   have hsz:(⟨r1.text.toArray⟩:ByteArray).size=r1.text.length:=two_size _
   have hlst:(⟨r1.text.toArray⟩:ByteArray).data.toList=r1.text:=rfl
   have HEND:=hide (fun tk td=>read_end (n:=n) (tk:=tk) (td:=td) HFI.out R1.out S1.out C1.out hrb hrg ht1)
   have htx:=R1.out.tx
   have HLS:=hide hlst
   generalize (⟨r1.text.toArray⟩:ByteArray)=tb at *
   obtain ⟨N,hN⟩:∃ N:Nat,r1.text.length=N:=⟨_,rfl⟩
   have HNN:=hide hN
   rw[hN] at hsz htx
   clear hN hlst ht1
   by_cases hnl:N<n
   ·have jl:(N:Int)<(n:Int):=by omega
    have HNL:=hide hnl
    clear hnl
    go_wp2
    refine bodyPost_ret (results_tmp2 rfl _ _ _) rfl ?_
    exact HEND.out _ _ (by rw[ext_take,HLS.out,List.take_of_length_le (by rw[HNN.out];exact Nat.le_refl _),List.take_of_length_le (by rw[HNN.out];exact Nat.le_of_lt HNL.out)]) (by rw[List.drop_eq_nil_of_le (by rw[HNN.out];exact Nat.le_of_lt HNL.out)];rfl)
   ·have jl:¬ (N:Int)<(n:Int):=by omega
    have j2:(n:Int)≤(N:Int):=by omega
    have HNL:=hide hnl
    clear hnl
    go_wp2
    refine bodyPost_ret (results_tmp2 rfl _ _ _) rfl ?_
    exact HEND.out _ _ (by rw[ext_take,HLS.out]) (by rw[sub_list,HLS.out,List.take_of_length_le (by rw[List.length_drop,HNN.out];exact Nat.le_refl _)])
 ·have HFI:=hide (Ref.Rd.Fill.stay r hA)
  have R1:=hide hR
  have S1:=hide hS
  have C1:=hide (Chg.refl (fun x=>x=rb∨x=b) w)
  have c4:=hR.hb.cell (i:=4) rfl
  have c5:=hR.hb.cell (i:=5) rfl
  have f1:=hR.hb.frozen
  clear hR hS hn
  by_cases ht1:r.text=[]
  ·have ze:(r.e==0)=false:=beq_eq_false_iff_ne.2 (fun h=>hA ⟨ht1,h⟩)
   have HAN:=hide (show r.ans n=([],r.e) from if_pos ht1)
   rw[ht1] at c4
   have HT1:=hide ht1
   clear ht1
   go_enter Tryz.func30,Tryz.ntmps30
   go_wp2
   go_region
   go_wp2
   refine bodyPost_ret (results_tmp2 rfl _ _ _) rfl ?_
   refine ⟨r,HFI.out,by rw[HAN.out];rfl,?_,SrcRep.after S1.out (below_drewN (Below.refl _ _) 1),C1.out.trans (Chg.of_below (below_drewN (Below.refl _ _) 1))⟩
   rw[Rd.tell_nil HT1.out]
   exact RdRep.after R1.out (below_drewN (Below.refl _ _) 1)
  ·have zt:=ba_cons ht1
   have hsz:(⟨r.text.toArray⟩:ByteArray).size=r.text.length:=two_size _
   have hlst:(⟨r.text.toArray⟩:ByteArray).data.toList=r.text:=rfl
   have HEND:=hide (fun tk td=>read_end (n:=n) (tk:=tk) (td:=td) HFI.out R1.out S1.out C1.out hrb hrg ht1)
   have htx:=R1.out.tx
   have HLS:=hide hlst
   generalize (⟨r.text.toArray⟩:ByteArray)=tb at *
   obtain ⟨N,hN⟩:∃ N:Nat,r.text.length=N:=⟨_,rfl⟩
   have HNN:=hide hN
   rw[hN] at hsz htx
   clear hN hlst ht1
   by_cases hnl:N<n
   ·have jl:(N:Int)<(n:Int):=by omega
    have HNL:=hide hnl
    clear hnl
    go_enter Tryz.func30,Tryz.ntmps30
    go_wp2
    refine bodyPost_ret (results_tmp2 rfl _ _ _) rfl ?_
    exact HEND.out _ _ (by rw[ext_take,HLS.out,List.take_of_length_le (by rw[HNN.out];exact Nat.le_refl _),List.take_of_length_le (by rw[HNN.out];exact Nat.le_of_lt HNL.out)]) (by rw[List.drop_eq_nil_of_le (by rw[HNN.out];exact Nat.le_of_lt HNL.out)];rfl)
   ·have jl:¬ (N:Int)<(n:Int):=by omega
    have j2:(n:Int)≤(N:Int):=by omega
    have HNL:=hide hnl
    clear hnl
    go_enter Tryz.func30,Tryz.ntmps30
    go_wp2
    refine bodyPost_ret (results_tmp2 rfl _ _ _) rfl ?_
    exact HEND.out _ _ (by rw[ext_take,HLS.out]) (by rw[sub_list,HLS.out,List.take_of_length_le (by rw[List.length_drop,HNN.out];exact Nat.le_refl _)])
namespace Ref
def New (m:List UInt8) (x:Src) (i0:Src) (i1:Int) (i2:List UInt8):Prop:=∀ P:Src→Int→List UInt8→Prop,(m.length≠32→P x 1 [])→(∀ (y:Src) (j:Nat),m.length=32→Src.Top x.rest x 0 y j 2→P y 17 [])→(∀ (y:Src) (j c:Nat),m.length=32→Src.Top x.rest x 0 y j c→c≠2→(opnA m (topS x j)).2≠0→P y (opnA m (topS x j)).2 [])→(∀ (y:Src) (j c:Nat) (z:Src) (d:Nat),m.length=32→Src.Top x.rest x 0 y j c→c≠2→(opnA m (topS x j)).2=0→Src.Ask y 16 z d→d≠0→P z (if d=2 then 17 else 10) [])→(∀ (y:Src) (j c:Nat) (z:Src),m.length=32→Src.Top x.rest x 0 y j c→c≠2→(opnA m (topS x j)).2=0→Src.Ask y 16 z 0→P z 0 (keyL (opnA m (topS x j)).1 (topS y 16).data.toList inBody))→P i0 i1 i2
theorem New.len {m:List UInt8} {x:Src} (h0:m.length≠32):New m x x 1 []:=fun _ c0 _ _ _ _=>c0 h0
theorem New.src {m:List UInt8} {x:Src} (y:Src) (j:Nat) (h0:m.length=32) (h1:Src.Top x.rest x 0 y j 2):New m x y 17 []:=fun _ _ c1 _ _ _=>c1 y j h0 h1
theorem New.top {m:List UInt8} {x:Src} (y:Src) (j c:Nat) (h0:m.length=32) (h1:Src.Top x.rest x 0 y j c) (h2:c≠2) (h3:(opnA m (topS x j)).2≠0):New m x y (opnA m (topS x j)).2 []:=fun _ _ _ c2 _ _=>c2 y j c h0 h1 h2 h3
theorem New.cut {m:List UInt8} {x:Src} (y:Src) (j c:Nat) (z:Src) (d:Nat) (h0:m.length=32) (h1:Src.Top x.rest x 0 y j c) (h2:c≠2) (h3:(opnA m (topS x j)).2=0) (h4:Src.Ask y 16 z d) (h5:d≠0):New m x z (if d=2 then 17 else 10) []:=fun _ _ _ _ c3 _=>c3 y j c z d h0 h1 h2 h3 h4 h5
theorem New.ok {m:List UInt8} {x:Src} (y:Src) (j c:Nat) (z:Src) (h0:m.length=32) (h1:Src.Top x.rest x 0 y j c) (h2:c≠2) (h3:(opnA m (topS x j)).2=0) (h4:Src.Ask y 16 z 0):New m x z 0 (keyL (opnA m (topS x j)).1 (topS y 16).data.toList inBody):=fun _ _ _ _ _ c4=>c4 y j c z h0 h1 h2 h3 h4
theorem New.elim {m:List UInt8} {x:Src} {motive:∀ i0 i1 i2,New m x i0 i1 i2→Prop} (len:∀ h0,motive _ _ _ (New.len h0)) (src:∀ y j h0 h1,motive _ _ _ (New.src y j h0 h1)) (top:∀ y j c h0 h1 h2 h3,motive _ _ _ (New.top y j c h0 h1 h2 h3)) (cut:∀ y j c z d h0 h1 h2 h3 h4 h5,motive _ _ _ (New.cut y j c z d h0 h1 h2 h3 h4 h5)) (ok:∀ y j c z h0 h1 h2 h3 h4,motive _ _ _ (New.ok y j c z h0 h1 h2 h3 h4)) {i0 i1 i2} (h:New m x i0 i1 i2):motive _ _ _ h:=by
 obtain ⟨_,q⟩:=h (fun i0 i1 i2=>∃ h,motive i0 i1 i2 h) (fun h0=>⟨_,len h0⟩) (fun y j h0 h1=>⟨_,src y j h0 h1⟩) (fun y j c h0 h1 h2 h3=>⟨_,top y j c h0 h1 h2 h3⟩) (fun y j c z d h0 h1 h2 h3 h4 h5=>⟨_,cut y j c z d h0 h1 h2 h3 h4 h5⟩) (fun y j c z h0 h1 h2 h3 h4=>⟨_,ok y j c z h0 h1 h2 h3 h4⟩)
 exact q
theorem opnA_len (m:List UInt8) (t:ByteArray):(opnA m t).1.length≤32:=by
 unfold opnA
 split
 ·exact Nat.zero_le _
 ·rename_i h
  split
  ·exact Nat.zero_le _
  ·split
   ·exact Nat.zero_le _
   ·rcases parAns_facts t with ⟨h1,_⟩ | ⟨_,h2,_⟩
    ·exact absurd h1 h
    ·exact unwA_len m h2
end Ref
def NewRP (m:ByteArray) (b g:Nat) (x:Src) (w:World) (e:Ending) (w':World):Prop:=∃ y k key pv,Ref.New m.data.toList x y k key∧e = .returned (.tuple #[pv,.int .i64 k])∧(k≠0→pv = .pointer none)∧(k=0→∃ rb,w.heap.size≤rb∧pv = .pointer (some ⟨rb,0,none⟩)∧RdRep rb b ⟨y,key,0,[],[],0⟩ w')∧SrcRep b g y w'∧w.grownBy w' (some b)
set_option maxRecDepth 100000 in
set_option maxHeartbeats 6400000 in
theorem newReader_any (m:ByteArray) (b g:Nat) (x:Src) (w:World) (ht:Tabs w) (hS:SrcRep b g x w) (hb2:2≤b):
  Calls Tryz.prog 29 #[.string m,.pointer (some ⟨b,0,none⟩)] w (NewRP m b g x w):=by
 by_cases hl:m.size=32
 ·have jl:((m.size:Int)==32)=true:=by rw[beq_iff_eq];omega
  have jl2:((m.size:Int) != 32)=false:=by simp only[bne,jl];rfl
  have HRH:=hide (readHeader_any b g x w hS)
  have HT:=hide ht
  have HXA:=hide hS.at_
  have HML:=hide (show m.data.toList.length=32 by rw[ba_len,hl])
  clear ht hS
  go_enter Tryz.func29,Tryz.ntmps29
  go_wp2_with fail
  refine HRH.out.mono ?_
  rintro e w1 ⟨y,j,c,hTop,rfl,hS1,hG1⟩
  have L:=hTop.left HXA.out
  have HTOP:=hide hTop
  have HS1:=hide hS1
  have HG1:=hide hG1
  have HT1:=hide (HT.out.grown hG1 hb2)
  have hj:=L.le (by decide)
  clear HRH hTop hS1 hG1 HT
  by_cases hc:c=2
  ·subst hc
   rw[if_pos rfl,if_pos rfl]
   clear L
   go_wp2
   refine bodyPost_ret (results_tmp2 rfl _ _ _) rfl ?_
   exact ⟨y,17,[],_,Ref.New.src y j HML.out HTOP.out,rfl,fun _=>rfl,fun h=>absurd h (by decide),HS1.out,HG1.out⟩
  ·rw[if_neg hc,if_neg hc]
   have htz:(topS x j).size≤1000:=by unfold topS;rw[ByteArray.size_extract];omega
   have HOH:=hide (openHeader_any m (topS x j) w1 HT1.out (by omega) htz)
   have hol:=Ref.opnA_len m.data.toList (topS x j)
   have HC:=hide hc
   have hya:=L.size
   have HN1:=hide (fun (h:(Ref.opnA m.data.toList (topS x j)).2≠0)=>Ref.New.top y j c HML.out HTOP.out HC.out h)
   have HN2:=hide (fun (h:(Ref.opnA m.data.toList (topS x j)).2=0) z d=>Ref.New.cut y j c z d HML.out HTOP.out HC.out h)
   have HN3:=hide (fun (h:(Ref.opnA m.data.toList (topS x j)).2=0) z=>Ref.New.ok y j c z HML.out HTOP.out HC.out h)
   generalize Ref.opnA m.data.toList (topS x j)=op at *
   generalize topS x j=tt at *
   obtain ⟨ot,oe⟩:=op
   simp only at HOH hol HN1 HN2 HN3
   clear hc htz L hj
   go_wp2_with fail
   refine HOH.out.mono ?_
   rintro e w2 ⟨rfl,hb2'⟩
   have HS2:=hide (SrcRep.after HS1.out hb2')
   have HG2:=hide (grown_below HG1.out hb2')
   have HT2:=hide (HT1.out.after hb2')
   clear HOH hb2' HS1 HG1 HT1
   by_cases ho:oe=0
   ·subst ho
    have HGA:=hide (gather_any b g y ⟨#[]⟩ 16 w2 HS2.out (by decide) (by decide))
    go_wp2_with fail
    refine HGA.out.mono ?_
    rintro e w3 ⟨z,d,hA,rfl,hS3,hG3⟩
    have L:=hA.left HS2.out.at_
    have HA:=hide hA
    have HS3:=hide hS3
    have HG3:=hide (grown_trans HG2.out hG3 (fun k hk=>.inr (by injection hk with hk;exact hk.symm)))
    have HT3:=hide (HT2.out.grown hG3 hb2)
    have hge:=L.ge
    have hsz:=L.size
    rw[L.s] at hsz
    have hgs:=gotS_size (got:=⟨#[]⟩) hge hsz
    have hz0:(⟨#[]⟩:ByteArray).size=0:=rfl
    have hcode:=L.code
    clear HGA hA hS3 hG3 HT2 HG2
    by_cases hd2:d=2
    ·subst hd2
     rw[if_pos rfl,if_pos rfl]
     clear L hgs
     go_wp2
     refine bodyPost_ret (results_tmp2 rfl _ _ _) rfl ?_
     exact ⟨z,17,[],_,HN2.out (by simp) z 2 HA.out (by decide),rfl,fun _=>rfl,fun h=>absurd h (by decide),HS3.out,HG3.out⟩
    ·rw[if_neg hd2,if_neg hd2]
     by_cases hd0:d=0
     ·subst hd0
      have hall:=L.all rfl
      have eg:gotS ⟨#[]⟩ y z=topS y 16:=ba_ext (by unfold gotS topS;rw[ba_list,hall];rfl)
      rw[eg] at hgs ⊢
      have j16:¬ ((topS y 16).size:Int)<16:=by omega
      have HKY:=hide (kKey_any ⟨ot.toArray⟩ (topS y 16) ⟨#[112,97,121,108,111,97,100]⟩ w3 (by rw[two_size];omega) (by omega) (by decide) HT3.out.k HT3.out.h HT3.out.two)
      rw[show (expO (macL (topS y 16).data.toList (⟨ot.toArray⟩:ByteArray).data.toList) (⟨#[112,97,121,108,111,97,100]⟩:ByteArray).data.toList 1).take 32=Ref.keyL ot (topS y 16).data.toList Ref.inBody from rfl] at HKY
      have HKL:=hide (Ref.keyL_len ot (topS y 16).data.toList Ref.inBody)
      have HNK:=hide (HN3.out (by simp) z HA.out)
      generalize Ref.keyL ot (topS y 16).data.toList Ref.inBody=ky at *
      generalize topS y 16=ty at *
      clear L eg hall hd2
      go_wp2_with fail
      refine HKY.out.mono ?_
      rintro e w4 ⟨rfl,hb4⟩
      have HS4:=hide (SrcRep.after HS3.out hb4)
      have HG4:=hide (grown_below HG3.out hb4)
      have hsz4:=HG4.out.size
      clear HKY hb4 HS3 HG3 HT3
      generalize hkb:(⟨ky.toArray⟩:ByteArray)=kb at *
      go_wp2
      refine bodyPost_ret (results_tmp2 rfl _ _ _) rfl ?_
      have hbA:Below w4.heap.size w4 (w4.alloc (.cells (rdCells (.pointer (some ⟨b,0,none⟩)) kb 0 ⟨#[]⟩ ⟨#[]⟩ 0).toArray 118)):=(Below.refl _ _).alloc (Nat.le_refl _) _
      refine ⟨z,0,ky,_,HNK.out,rfl,fun h=>absurd rfl h,fun _=>⟨w4.heap.size,hsz4,rfl,?_,fun _=>⟨HKL.out,Nat.zero_le _⟩,Nat.zero_le _⟩,SrcRep.after HS4.out hbA,grown_below HG4.out hbA⟩
      show Blk _ _ _ (rdCells _ ⟨ky.toArray⟩ 0 ⟨#[]⟩ ⟨#[]⟩ 0)
      rw[hkb]
      exact Blk.new rfl rfl
     ·obtain rfl:d=1:=by omega
      have ho:=L.over rfl
      have j16:((gotS ⟨#[]⟩ y z).size:Int)<16:=by omega
      generalize gotS ⟨#[]⟩ y z=gt at *
      clear L ho
      go_wp2
      refine bodyPost_ret (results_tmp2 rfl _ _ _) rfl ?_
      exact ⟨z,10,[],_,HN2.out (by simp) z 1 HA.out (by decide),rfl,fun _=>rfl,fun h=>absurd h (by decide),HS3.out,HG3.out⟩
   ·have z1:(oe != 0)=true:=by rw[bne_iff_ne];exact ho
    have HO:=hide ho
    generalize (⟨ot.toArray⟩:ByteArray)=ob at *
    clear ho hol
    go_wp2
    refine bodyPost_ret (results_tmp2 rfl _ _ _) rfl ?_
    exact ⟨y,oe,[],_,HN1.out HO.out,rfl,fun _=>rfl,fun h=>absurd h HO.out,HS2.out,HG2.out⟩
 ·have jl2:((m.size:Int) != 32)=true:=by rw[bne_iff_ne];omega
  have HL:=hide (show m.data.toList.length≠32 by rw[ba_len];exact hl)
  have HS:=hide hS
  clear hl hS ht
  go_enter Tryz.func29,Tryz.ntmps29
  go_wp2
  refine bodyPost_ret (results_tmp2 rfl _ _ _) rfl ?_
  exact ⟨x,1,[],_,Ref.New.len HL.out,rfl,fun _=>rfl,fun h=>absurd h (by decide),HS.out,World.grownBy.refl _ _⟩
namespace Ref
def Rd.rem (r:Rd):List UInt8:=r.ahead++r.x.rest
theorem rest_len (x:Src):x.rest.length=x.s.size-x.at_:=by unfold Src.rest;rw[List.length_drop,ba_len]
theorem rest_cut {x y:Src} (hs:y.s=x.s) (h1:x.at_≤y.at_):(x.s.extract x.at_ y.at_).data.toList=x.rest.take (y.at_-x.at_)∧y.rest=x.rest.drop (y.at_-x.at_):=by
 refine ⟨by rw[sub_list];rfl,?_⟩
 unfold Src.rest
 rw[hs,List.drop_drop]
 congr 1
 omega
structure Rd.Next (r r1:Rd):Prop where
 s:r1.x.s=r.x.s
 plan:r1.x.plan=r.x.plan
 at_:r1.x.at_≤r1.x.s.size
 none:r.rem=[]→r1.text=[]∧r1.e=10
 last:r.rem≠[]→r.rem.length≤32→r1.x.rest=[]∧(((opnC r.key r.n true r.rem).2≠0∧r1.text=[]∧r1.e=(opnC r.key r.n true r.rem).2)∨((opnC r.key r.n true r.rem).2=0∧r1.text=(opnC r.key r.n true r.rem).1∧r1.e=13))
 more:32<r.rem.length→((opnC r.key r.n false (r.rem.take 32)).2≠0∧r1.text=[]∧r1.e=(opnC r.key r.n false (r.rem.take 32)).2)∨((opnC r.key r.n false (r.rem.take 32)).2=0∧r1.text=(opnC r.key r.n false (r.rem.take 32)).1∧r1.e=0∧r1.key=r.key∧r1.n=r.n+1∧r1.rem=r.rem.drop 32∧r1.ahead.length=1)
theorem Rd.next {r r1:Rd} (h:Rd.Fill r r1) (ht:r.text=[]) (he:r.e=0) (ha:r.ahead.length≤1) (hx:r.x.at_≤r.x.s.size) (hc:Src.Calm r.x.plan):Rd.Next r r1:=by
 cases h using Ref.Rd.Fill.elim with
 | stay hn=>exact absurd ⟨ht,he⟩ hn
 | opn y c _ _ hA=>
  have L:=hA.left hx
  obtain ⟨k1,k2⟩:=hA.calm_all hc hx
  have hge:=L.ge
  have hsz:=L.size
  rw[L.s] at hsz
  obtain ⟨ec,er⟩:=rest_cut L.s hge
  have hrl:=rest_len r.x
  have hc2:c≠2:=hA.calm hc
  have hml:r.rem.length=r.ahead.length+(r.x.s.size-r.x.at_):=by unfold Rd.rem;rw[List.length_append,hrl]
  have hgl:r.ahead.length+(y.at_-r.x.at_)=min 33 r.rem.length:=by
   rw[hml]
   rcases Nat.lt_or_ge r.x.s.size (r.x.at_+(33-r.ahead.length)) with h | h
   ·have:=(k2 h).2;omega
   ·have:=(k1 h).2;omega
  have hgt:r.ahead++(r.x.s.extract r.x.at_ y.at_).data.toList=r.rem.take 33:=by
   rw[ec]
   unfold Rd.rem
   rw[List.take_append]
   rw[List.take_of_length_le (show r.ahead.length≤33 by omega)]
   congr 1
   rcases Nat.lt_or_ge r.x.s.size (r.x.at_+(33-r.ahead.length)) with h | h
   ·have:=(k2 h).2
    rw[List.take_of_length_le (by omega),List.take_of_length_le (by omega)]
   ·have:=(k1 h).2
    congr 1
    omega
  have hx1:(r.opn y c).x=y:=Rd.opn_x r y c
  have hop:r.opn y c=if min 33 r.rem.length=0 then ⟨y,[],0,[],[],10⟩ else if min 33 r.rem.length≤32 then
   (if (opnC r.key r.n true (r.rem.take 33)).2≠0 then ⟨y,[],0,[],[],(opnC r.key r.n true (r.rem.take 33)).2⟩ else ⟨y,[],0,[],(opnC r.key r.n true (r.rem.take 33)).1,13⟩)
   else if (opnC r.key r.n false ((r.rem.take 33).take 32)).2≠0 then ⟨y,[],0,[],[],(opnC r.key r.n false ((r.rem.take 33).take 32)).2⟩
   else ⟨y,r.key,r.n+1,(r.rem.take 33).drop 32,(opnC r.key r.n false ((r.rem.take 33).take 32)).1,0⟩:=by
   rw[←hgl,←hgt]
   show Rd.opn r y c=_
   unfold Rd.opn
   rw[if_neg hc2]
  refine ⟨by rw[hx1];exact L.s,by rw[hx1];exact L.plan,by rw[hx1];exact L.size,fun h=>?_,fun h0 h1=>?_,fun h1=>?_⟩
  ·rw[hop,if_pos (by rw[h];rfl)]
   exact ⟨rfl,rfl⟩
  ·have hp:=List.length_pos_iff.2 h0
   have et:r.rem.take 33=r.rem:=List.take_of_length_le (by omega)
   rw[et,if_neg (by omega),if_pos (by omega)] at hop
   refine ⟨?_,?_⟩
   ·rw[hx1,er]
    apply List.drop_eq_nil_of_le
    omega
   ·rw[hop]
    by_cases h2:(opnC r.key r.n true r.rem).2≠0
    ·rw[if_pos h2];exact .inl ⟨h2,rfl,rfl⟩
    ·rw[if_neg h2];exact .inr ⟨by simpa using h2,rfl,rfl⟩
  ·have et:(r.rem.take 33).take 32=r.rem.take 32:=by rw[List.take_take];rfl
   rw[et,if_neg (by omega),if_neg (by omega)] at hop
   rw[hop]
   by_cases h2:(opnC r.key r.n false (r.rem.take 32)).2≠0
   ·rw[if_pos h2];exact .inl ⟨h2,rfl,rfl⟩
   ·rw[if_neg h2]
    refine .inr ⟨by simpa using h2,rfl,rfl,rfl,rfl,?_,?_⟩
    ·show (r.rem.take 33).drop 32++y.rest=r.rem.drop 32
     have e1:r.rem=r.rem.take 33++y.rest:=by
      rw[←hgt,ec,er]
      unfold Rd.rem
      rw[List.append_assoc,List.take_append_drop]
     conv=>rhs;rw[e1]
     rw[List.drop_append_of_le_length (by rw[List.length_take];omega)]
    ·show ((r.rem.take 33).drop 32).length=1
     rw[List.length_drop,List.length_take]
     omega
theorem Rd.Fill.meas {r r1:Rd} (h:Rd.Fill r r1) (ha:r.e=0→r.ahead.length≤1) (hx:r.x.at_≤r.x.s.size):r1.x.s=r.x.s∧r1.x.plan=r.x.plan∧r.x.at_≤r1.x.at_∧r1.x.at_≤r1.x.s.size∧r1.n≤r.n+1∧r1.n+(r1.x.s.size-r1.x.at_)≤r.n+(r.x.s.size-r.x.at_)∧(r1.x.s.size-r1.x.at_)+r1.text.length≤(r.x.s.size-r.x.at_)+r.text.length∧(r1.text=[]→r1.e≠0):=by
 cases h using Ref.Rd.Fill.elim with
 | stay hn=>exact ⟨rfl,rfl,Nat.le_refl _,hx,Nat.le_succ _,Nat.le_refl _,Nat.le_refl _,fun h e=>hn ⟨h,e⟩⟩
 | opn y c ht he hA=>
  have L:=hA.left hx
  have hge:=L.ge
  have hsz:=L.size
  have hs:=L.s
  have hal:=ha he
  rw[hs] at hsz
  rw[Rd.opn_x,L.s]
  have hgl:(r.ahead++(r.x.s.extract r.x.at_ y.at_).data.toList).length=r.ahead.length+(y.at_-r.x.at_):=by rw[List.length_append,ba_len,ByteArray.size_extract];omega
  refine ⟨rfl,L.plan,hge,hsz,?_,?_,?_,?_⟩
  ·unfold Rd.opn
   split
   ·exact Nat.zero_le _
   ·split
    ·exact Nat.zero_le _
    ·split
     ·split <;> exact Nat.zero_le _
     ·split
      ·exact Nat.zero_le _
      ·exact Nat.le_refl _
  ·unfold Rd.opn
   split
   ·show 0+_≤_;omega
   ·split
    ·show 0+_≤_;omega
    ·split
     ·split
      ·show 0+_≤_;omega
      ·show 0+_≤_;omega
     ·rename_i hq
      split
      ·show 0+_≤_;omega
      ·show (r.n+1)+_≤_;omega
  ·rw[ht]
   unfold Rd.opn
   split
   ·show _+0≤_+0;omega
   ·split
    ·show _+0≤_+0;omega
    ·split
     ·rcases opnC_cases r.key r.n true (r.ahead++(r.x.s.extract r.x.at_ y.at_).data.toList) with ⟨h0,h1,_⟩ | ⟨h0,h1⟩
      ·rw[if_neg (by rw[h0];simp)]
       show _+(opnC _ _ _ _).1.length≤_+0
       omega
      ·rw[if_pos h0]
       show _+0≤_+0
       omega
     ·rename_i hq
      rcases opnC_cases r.key r.n false ((r.ahead++(r.x.s.extract r.x.at_ y.at_).data.toList).take 32) with ⟨h0,h1,_⟩ | ⟨h0,h1⟩
      ·rw[if_neg (by rw[h0];simp)]
       show _+(opnC _ _ _ _).1.length≤_+0
       rw[List.length_take] at h1
       omega
      ·rw[if_pos h0]
       show _+0≤_+0
       omega
  ·unfold Rd.opn
   split
   ·exact fun _ h=>absurd (show (17:Int)=0 from h) (by decide)
   ·split
    ·exact fun _ h=>absurd (show (10:Int)=0 from h) (by decide)
    ·split
     ·split
      ·rename_i h;exact fun _=>h
      ·exact fun _ h=>absurd (show (13:Int)=0 from h) (by decide)
     ·split
      ·rename_i h;exact fun _=>h
      ·rename_i hq h
       intro h2
       exfalso
       rcases opnC_cases r.key r.n false ((r.ahead++(r.x.s.extract r.x.at_ y.at_).data.toList).take 32) with ⟨h0,h1,_⟩ | ⟨h0,h1⟩
       ·have h3:(opnC r.key r.n false ((r.ahead++(r.x.s.extract r.x.at_ y.at_).data.toList).take 32)).1=[]:=h2
        rw[h3,List.length_take] at h1
        simp only[List.length_nil] at h1
        omega
       ·exact h h0
end Ref
set_option maxHeartbeats 400000 in
theorem sinkOf_nil (w:World):
  Calls Tryz.prog 21 #[.slice none 0 0] w fun e w'=>∃ b,e = .returned (.pointer (some ⟨b,0,none⟩))∧w.heap.size<b ∧
   Blk w' w.heap.size 3 (intV [])∧Blk w' b 96 [.string ⟨#[]⟩,.slice (some ⟨w.heap.size,0,none⟩) 0 0,.int .i64 0]∧Below w.heap.size w w':=by
 have hmk:∀ w,(Instr.makeSlice 75 (.int .i64 0) (.int .i64 0)).run Tryz.prog w = .ok (.slice (some ⟨w.heap.size,0,none⟩) 0 0) (w.alloc (.cells (intV (List.replicate 0 0)).toArray 3)):=fun w=>make_ints 0 (by decide) w
 go_enter Tryz.func21,Tryz.ntmps21
 go_wp2_with (refine wpList_copy_splice rfl (.tmp 7) (.tmp 8) 75 75 rfl 3 Tryz.underlying75 infoInt1 _ _ _ _ _ _ rfl rfl w.heap.size 0 (intV (List.replicate 0 0)) 3 ?_ (intV []) ?_ ?_ ?_ (intV_one _) w.heap.size w ?_ (Nat.le_refl _) ?_;exact Blk.new rfl rfl;rfl;(intro h;exact absurd h (by decide));(simp[intV]);exact (Below.refl _ _).alloc (Nat.le_refl _) _;intro w2 HB2 hbe2)
 go_ret
 have hB2:Blk w2 w.heap.size 3 (intV []):=HB2.out
 exact ⟨_,rfl,hB2.lt,hB2.alloc _,Blk.new rfl rfl,hbe2.alloc (Nat.le_of_lt hB2.lt) _⟩
def src0 (s:ByteArray):Src:=⟨s,[],0,0⟩
theorem src0_calm (s:ByteArray):Src.Calm (src0 s).plan:=fun i=>by show 0≤([]:List Int).getD i 0;simp
set_option maxHeartbeats 400000 in
theorem sourceOf_nil (text:ByteArray) (w:World) (hz:text.size≤1099511627776):
  Calls Tryz.prog 28 #[.string text,.slice none 0 0] w fun e w'=>∃ b,e = .returned (.pointer (some ⟨b,0,none⟩))∧w.heap.size<b∧SrcRep b w.heap.size (src0 text) w'∧Below w.heap.size w w':=by
 have hmk:∀ w,(Instr.makeSlice 75 (.int .i64 0) (.int .i64 0)).run Tryz.prog w = .ok (.slice (some ⟨w.heap.size,0,none⟩) 0 0) (w.alloc (.cells (intV (List.replicate 0 0)).toArray 3)):=fun w=>make_ints 0 (by decide) w
 have HZ:=hide hz
 clear hz
 go_enter Tryz.func28,Tryz.ntmps28
 go_wp2_with (refine wpList_copy_splice rfl (.tmp 9) (.tmp 10) 75 75 rfl 3 Tryz.underlying75 infoInt1 _ _ _ _ _ _ rfl rfl w.heap.size 0 (intV (List.replicate 0 0)) 3 ?_ (intV []) ?_ ?_ ?_ (intV_one _) w.heap.size w ?_ (Nat.le_refl _) ?_;exact Blk.new rfl rfl;rfl;(intro h;exact absurd h (by decide));(simp[intV]);exact (Below.refl _ _).alloc (Nat.le_refl _) _;intro w2 HB2 hbe2)
 go_ret
 have hB2:Blk w2 w.heap.size 3 (intV []):=HB2.out
 exact ⟨_,rfl,hB2.lt,⟨Blk.new rfl rfl,hB2.alloc _,HZ.out,Nat.zero_le _,by show 0≤_;decide,Nat.le_refl _⟩,hbe2.alloc (Nat.le_of_lt hB2.lt) _⟩
theorem Chg.belowN {w w1 w2:World} {S:Nat→Prop} {B:Nat} (hC:Chg S w1 w2) (hb:Below B w w1) (hB:B≤w.heap.size) (h:∀ k,S k→B≤k):Below B w w2:=
 hb.trans ⟨hC.os,hC.tape,hC.output,hC.size,fun k hk=>hC.block k (Nat.lt_of_lt_of_le hk (Nat.le_trans hB hb.size)) (fun hs=>absurd (h k hs) (by omega))⟩
namespace Ref
def boxN (n:Nat):Nat:=(n+31)/32
def boxesL (body:List UInt8) (k:Nat):List ByteArray:=(List.range k).map fun i=>⟨(boxI body i).toArray⟩
theorem boxesL_succ (body:List UInt8) (k:Nat):boxesL body (k+1)=boxesL body k++[⟨(boxI body k).toArray⟩]:=by simp[boxesL,List.range_succ]
theorem boxesL_len (body:List UInt8) (k:Nat):(boxesL body k).length=k:=by simp[boxesL]
theorem boxesL_at (body:List UInt8) (k i:Nat) (hi:i<k):(boxesL body k).getD i ⟨#[]⟩=⟨(boxI body i).toArray⟩:=by
 rw[List.getD_eq_getElem?_getD,List.getElem?_eq_getElem (by rw[boxesL_len];exact hi)]
 simp[boxesL]
def chunkL (X:List UInt8) (i:Nat):List UInt8:=(X.drop (16*i)).take 16
theorem full_nums (n:Nat):16*full n≤n∧n≤16*full n+16∧(n+15)/16=(if n=0 then 0 else full n+1):=by
 unfold full
 split <;> omega
theorem box_len {key:List UInt8} (hk:key.length=32) (n:Nat) (last:Bool) (t:List UInt8):(box key n last t).length=t.length+16:=by
 unfold box
 rw[if_pos hk,Box.sealed_len]
theorem encB_len2 {key:List UInt8} (hk:key.length=32) (X:List UInt8):∀ k,16*k≤X.length→(encB key X k).length=32*k
 | 0,_=>rfl
 | k+1,h=>by
  rw[encB,List.length_append,encB_len2 hk X k (by omega),box_len hk,List.length_take,List.length_drop]
  omega
theorem encB_at {key:List UInt8} (hk:key.length=32) (X:List UInt8) (i:Nat):∀ k,i<k→16*k≤X.length→boxI (encB key X k) i=box key i false (chunkL X i)
 | 0,h,_=>absurd h (Nat.not_lt_zero _)
 | k+1,h,hx=>by
  have hl:=encB_len2 hk X k (by omega)
  have hb:(box key k false (chunkL X k)).length=32:=by
   rw[box_len hk]
   unfold chunkL
   rw[List.length_take,List.length_drop]
   omega
  rw[encB]
  show ((encB key X k++box key k false (chunkL X k)).drop (32*i)).take 32=_
  rcases Nat.lt_or_ge i k with h1 | h1
  ·rw[List.drop_append_of_le_length (by omega),List.take_append_of_le_length (by rw[List.length_drop];omega)]
   exact encB_at hk X i k h1 (by omega)
  ·obtain rfl:i=k:=by omega
   rw[←hl,List.drop_left,List.take_of_length_le (by omega)]
theorem encF_len {key:List UInt8} (hk:key.length=32) (X:List UInt8):(encF key X).length=32*full X.length+(X.length-16*full X.length)+16:=by
 have h:=full_nums X.length
 unfold encF
 rw[List.length_append,encB_len2 hk X _ h.1,box_len hk,List.length_drop]
 omega
theorem encF_boxN {key:List UInt8} (hk:key.length=32) (X:List UInt8):boxN (encF key X).length=full X.length+1:=by
 have h:=full_nums X.length
 unfold boxN
 rw[encF_len hk]
 omega
theorem encF_at {key:List UInt8} (hk:key.length=32) (X:List UInt8) (i:Nat) (hi:i<full X.length):boxI (encF key X) i=box key i false (chunkL X i):=by
 have h:=full_nums X.length
 have hl:=encB_len2 hk X _ h.1
 rw[←encB_at hk X i _ hi h.1]
 unfold encF boxI
 rw[List.drop_append_of_le_length (by omega),List.take_append_of_le_length (by rw[List.length_drop];omega)]
theorem encF_last {key:List UInt8} (hk:key.length=32) (X:List UInt8):(encF key X).drop (32*full X.length)=box key (full X.length) true (chunkL X (full X.length)):=by
 have h:=full_nums X.length
 have hl:=encB_len2 hk X _ h.1
 unfold encF chunkL
 rw[←hl,List.drop_left,List.take_of_length_le (by rw[List.length_drop];omega)]
theorem encF_box {key:List UInt8} (hk:key.length=32) (X:List UInt8) (i:Nat) (hi:i≤full X.length):boxI (encF key X) i=box key i (decide (i=full X.length)) (chunkL X i):=by
 rcases Nat.lt_or_ge i (full X.length) with h1 | h1
 ·rw[encF_at hk X i h1,decide_eq_false (by omega)]
 ·obtain rfl:i=full X.length:=by omega
  unfold boxI
  rw[encF_last hk,decide_eq_true rfl,List.take_of_length_le]
  rw[box_len hk]
  unfold chunkL
  rw[List.length_take]
  omega
theorem boxI_len (body:List UInt8) (i:Nat):(boxI body i).length≤32:=by unfold boxI;rw[List.length_take];omega
end Ref
theorem ext_left (d r:ByteArray) (a b:Nat) (h:b≤d.size):(d++r).extract a b=d.extract a b:=by
 apply ba_ext
 rw[sub_list,sub_list,ba_list]
 rcases Nat.lt_or_ge a d.size with h1 | h1
 ·rw[List.drop_append_of_le_length (by rw[ba_len];omega),List.take_append_of_le_length (by rw[List.length_drop,ba_len];omega)]
 ·rw[show b-a=0 by omega,List.take_zero,List.take_zero]
theorem cuts_left (d r:ByteArray) (n:Nat) (h:16*n≤d.size):cuts (d++r) 0 n=cuts d 0 n:=by
 unfold cuts
 apply List.map_congr_left
 intro i hi
 have:=List.mem_range.1 hi
 exact ext_left d r _ _ (by omega)
theorem file_left (l:List ByteArray) (d r:ByteArray) (h:d.size=16*(l.length+2)) (X:List UInt8):Ref.fkey l (d++r) 0=Ref.fkey l d 0∧Ref.pdraw l (d++r) 0=Ref.pdraw l d 0∧Ref.pkey l (d++r) 0=Ref.pkey l d 0∧Ref.head l (d++r) 0=Ref.head l d 0∧Ref.file l (d++r) 0 X=Ref.file l d 0 X:=by
 have e1:Ref.fkey l (d++r) 0=Ref.fkey l d 0:=ext_left d r _ _ (by omega)
 have e2:Ref.pdraw l (d++r) 0=Ref.pdraw l d 0:=ext_left d r _ _ (by omega)
 have e3:Ref.pkey l (d++r) 0=Ref.pkey l d 0:=by unfold Ref.pkey;rw[e1,e2]
 have e4:Ref.head l (d++r) 0=Ref.head l d 0:=by unfold Ref.head;rw[e1,cuts_left d r _ (by omega)]
 exact ⟨e1,e2,e3,e4,by unfold Ref.file;rw[e2,e3,e4]⟩
set_option maxHeartbeats 400000 in
theorem keepPick_any (c:Int) (n:Nat) (w:World) (h1 : -9223372036854775808≤c) (h2:c≤9223372036854775807) (hn:0<n) (hn2:n≤1099511627776):
  Calls Tryz.prog 15 #[.int .i64 c,.int .i64 (n:Nat)] w fun e w'=>e = .returned (.int .i64 (pickN c n:Nat))∧w'=w:=by
 have z1:((n:Int)==0)=false:=beq_eq_false_iff_ne.2 (by omega)
 by_cases hc:c<0
 ·have hk:(-(c+1)).tmod (n:Int)=((((-(c+1)).toNat%n:Nat)):Int):=by
   rw[Int.tmod_eq_emod_of_nonneg (by omega),Int.natCast_emod,Int.toNat_of_nonneg (by omega)]
  have HK:=hide hk
  clear hk
  go_enter Tryz.func15,Tryz.ntmps15
  go_wp2
  go_ret
  exact ⟨ret_int (by rw[←Int.neg_tmod,HK.out,pickN,if_pos (by omega)]),rfl⟩
 ·have hk:c.tmod (n:Int)=(((c.toNat%n:Nat)):Int):=by
   rw[Int.tmod_eq_emod_of_nonneg (by omega),Int.natCast_emod,Int.toNat_of_nonneg (by omega)]
  have he:c%(n:Int)=((c.toNat%n:Nat):Int):=by rw[Int.natCast_emod,Int.toNat_of_nonneg (by omega)]
  have HK:=hide hk
  have HE:=hide he
  clear hk he
  go_enter Tryz.func15,Tryz.ntmps15
  go_wp2
  go_ret
  exact ⟨ret_int (by rw[pickN,if_neg (by omega)];first | exact HE.out | exact HK.out),rfl⟩
theorem set_take {xs cur:List Value} {m j:Nat} {u:Value} (h:cur.take m=xs):(cur.set j u).take m=xs.set j u:=by rw[List.take_set,h]
theorem Row.set1 {w:World} {base g cap n i:Nat} {xs:List Value} (h:Row w base 5 1 (.slice (some ⟨g,0,none⟩) n cap) n xs) (u:Value):Row (w.setCell ⟨g,i,none⟩ u) base 5 1 (.slice (some ⟨g,0,none⟩) n cap) n (xs.set i u):=by
 obtain ⟨q1,q2⟩:=h
 refine ⟨by rw[List.length_set];exact q1,?_⟩
 rcases q2 with ⟨hn,_⟩ | ⟨g',cap',cur,hv',hb',hB,hc,hm,hcl,htk⟩
 ·cases hn
 ·injection hv' with hv1 hv2 hv3
  injection hv1 with hv1
  injection hv1 with hv1 _ _
  subst hv1
  subst hv3
  exact .inr ⟨g,cap,cur.set i u,rfl,hb',hB.setCell_same _ _,hc,hm,by rw[List.length_set];exact hcl,set_take htk⟩
set_option maxRecDepth 100000 in
set_option maxHeartbeats 1600000 in
theorem changed_any (s:ByteArray) (p:Int) (c:UInt8) (w:World) (h1 : -9223372036854775808≤p) (h2:p≤9223372036854775807) (hs0:0<s.size) (hs:s.size≤1099511627):
  Calls Tryz.prog 41 #[.string s,.int .i64 p,.int .u8 ((c.toNat:Nat):Int)] w fun e w'=>∃ r:ByteArray,e = .returned (.string r)∧r.size=s.size∧Below w.heap.size w w':=by
 have hcv:=fun w:World=>run_bytes_of_string (P:=Tryz.prog) w 9 67 5 s Tryz.underlying9 Tryz.underlying67 Tryz.underlying5
 have hge:=grownCap_ge w s.size 0 5
 have hle:=grownCap_le_maxLen w s.size 0 5 (by unfold maxLen;omega)
 have hrow:=row_bytes s w _ hge hle
 have hlen:s.data.toList.length=s.size:=by rw[Array.length_toList];rfl
 have hpk:=pickN_lt p s.size hs0
 have HPK:=hide (fun w=>keepPick_any p s.size w h1 h2 hs0 (by omega))
 have hbe:Below w.heap.size w (w.drew.alloc (.cells (bytesRow s (grownCap w s.size 0 5)) 5 ((bytesRow s (grownCap w s.size 0 5)).size,(bytesRow s (grownCap w s.size 0 5)).size+1))):=(Below.refl w.heap.size w).drew.alloc (Nat.le_refl _) _
 generalize hcape:grownCap w s.size 0 5=cap at *
 generalize pickN p s.size=i at *
 obtain ⟨g,cap',cur,hv,_,hB,_,_,hcl,htk⟩:=hrow.open hs0
 injection hv with hv1 hv2 hv3
 injection hv1 with hv1
 injection hv1 with hv1 _ _
 subst hv1
 subst hv3
 have hx:s.data.toList[i]? = some (s.data.toList[i]'(by omega)):=List.getElem?_eq_getElem _
 have c0:(w.drew.alloc (.cells (bytesRow s cap) 5 ((bytesRow s cap).size,(bytesRow s cap).size+1))).cell? ⟨w.heap.size,i,none⟩=some (.int .u8 (((s.data.toList[i]'(by omega)).toNat:Nat):Int)):=hB.cell (take_at htk (by simp[u8L,hx]))
 have f0:(w.drew.alloc (.cells (bytesRow s cap) 5 ((bytesRow s cap).size,(bytesRow s cap).size+1))).frozen? ⟨w.heap.size,i,none⟩=false:=hB.frozen (by rw[hcl];omega)
 have t1:=u8_xor (s.data.toList[i]'(by omega)) c
 have HR:=hide (Row.set1 hrow (i:=i) (.int .u8 ((((s.data.toList[i]'(by omega)) ^^^ c).toNat:Nat):Int)))
 have hset:(u8L s.data.toList).set i (.int .u8 ((((s.data.toList[i]'(by omega)) ^^^ c).toNat:Nat):Int))=u8L (s.data.toList.set i ((s.data.toList[i]'(by omega)) ^^^ c)):=by unfold u8L;rw[List.map_set]
 rw[hset] at HR
 have hl2:(s.data.toList.set i ((s.data.toList[i]'(by omega)) ^^^ c)).length=s.size:=by rw[List.length_set];exact hlen
 obtain ⟨ao,cp,hve,_,_,hcv2⟩:=Row.strAny HR.out
 obtain ⟨ao3,cp3,hve3,_,_,hcv3⟩:=Row.strAny HR.out.drew
 have HBE:=hide hbe
 generalize s.data.toList.set i ((s.data.toList[i]'(by omega)) ^^^ c)=l2 at *
 generalize (s.data.toList[i]'(by omega)) ^^^ c=y at *
 generalize (s.data.toList[i]'(by omega))=x at *
 clear hrow hB hcl htk hset hve hve3 HR hx hbe hlen
 unfold maxLen at hle
 have jn:(0:Int)<(s.size:Int):=by omega
 have ji:(i:Int)<(s.size:Int):=by omega
 go_enter Tryz.func41,Tryz.ntmps41
 go_wp2_with fail
 refine (HPK.out _).mono ?_
 rintro e w2 ⟨rfl,hw2⟩
 have c2:w2.cell? ⟨w.heap.size,i,none⟩=some (.int .u8 ((x.toNat:Nat):Int)):=by rw[hw2];exact c0
 have f2:w2.frozen? ⟨w.heap.size,i,none⟩=false:=by rw[hw2];exact f0
 have hc2:(convert 67 9 (.slice (some ⟨w.heap.size,0,none⟩) s.size cap)).run Tryz.prog (w2.setCell ⟨w.heap.size,i,none⟩ (.int .u8 ((y.toNat:Nat):Int))) = .ok (.string ⟨l2.toArray⟩) (w2.setCell ⟨w.heap.size,i,none⟩ (.int .u8 ((y.toNat:Nat):Int))):=by rw[hw2];exact hcv2
 have hc3:(convert 67 9 (.slice (some ⟨w.heap.size,0,none⟩) s.size cap)).run Tryz.prog (w2.setCell ⟨w.heap.size,i,none⟩ (.int .u8 ((y.toNat:Nat):Int))).drew = .ok (.string ⟨l2.toArray⟩) (w2.setCell ⟨w.heap.size,i,none⟩ (.int .u8 ((y.toNat:Nat):Int))).drew:=by rw[hw2];exact hcv3
 have HB2:=hide (show Below w.heap.size w w2 by rw[hw2];exact HBE.out)
 clear HPK hw2 c0 f0 hcv2 hcv3 HBE hcv hcape
 go_wp2
 go_ret
 exact ⟨_,rfl,by rw[ba_size];exact hl2,HB2.out.setCell (Nat.le_refl _) _⟩
theorem make_cap (n:Nat) (hn:n≤1099511627776) (w:World):(Instr.makeSlice 67 (.int .i64 0) (.int .i64 (n:Nat))).run Tryz.prog w = .ok (.slice (some ⟨w.heap.size,0,none⟩) 0 n) (w.alloc (.cells (u8L (List.replicate n 0)).toArray 5)):=by
 obtain ⟨i0,hi,hz0,hz1,hz2⟩:=info_parts infoU8
 have h:=run_make (P:=Tryz.prog) w 67 5 i0 (.int .u8 0) Tryz.underlying67 hi hz0 .i64 .i64 0 (n:Int) (by omega) (by omega) (by rw[hz2];omega) (by omega)
 rw[hz1] at h
 simp only[Int.toNat_natCast] at h
 rw[bytes_made] at h
 exact h
set_option maxHeartbeats 400000 in
theorem kpick_any (c:Int) (n:Nat) (w:World) (h1 : -9223372036854775808≤c) (h2:c≤9223372036854775807) (hn:0<n) (hn2:n≤1099511627776):
  Calls Tryz.prog 15 #[.int .i64 c,.int .i64 (n:Nat)] w fun e w'=>e = .returned (.int .i64 (pickN c n:Nat))∧w'=w:=by
 have z1:((n:Int)==0)=false:=beq_eq_false_iff_ne.2 (by omega)
 by_cases hc:c<0
 ·have hk:(-(c+1)).tmod (n:Int)=((((-(c+1)).toNat%n:Nat)):Int):=by
   rw[Int.tmod_eq_emod_of_nonneg (by omega),Int.natCast_emod,Int.toNat_of_nonneg (by omega)]
  have HK:=hide hk
  clear hk
  go_enter Tryz.func15,Tryz.ntmps15
  go_wp2
  go_ret
  exact ⟨ret_int (by rw[←Int.neg_tmod,HK.out,pickN,if_pos (by omega)]),rfl⟩
 ·have hk:c.tmod (n:Int)=(((c.toNat%n:Nat)):Int):=by
   rw[Int.tmod_eq_emod_of_nonneg (by omega),Int.natCast_emod,Int.toNat_of_nonneg (by omega)]
  have he:c%(n:Int)=((c.toNat%n:Nat):Int):=by rw[Int.natCast_emod,Int.toNat_of_nonneg (by omega)]
  have HK:=hide hk
  have HE:=hide he
  clear hk he
  go_enter Tryz.func15,Tryz.ntmps15
  go_wp2
  go_ret
  exact ⟨ret_int (by rw[pickN,if_neg (by omega)];first | exact HE.out | exact HK.out),rfl⟩
def Upto40 (w:World) (e:Ending) (w':World):Prop:=∃ n:Nat,n≤40∧e = .returned (.int .i64 (n:Nat))∧w'=w
theorem piece_b (q k:Nat) (hq:q<37) (hk:k≤536870912):q*(k+1)≤19864223781:=Nat.le_trans (Nat.mul_le_mul (Nat.le_of_lt hq) (Nat.succ_le_succ hk)) (by decide)
theorem piece_d (k:Nat) (hk:k≤536870912):7*k*k≤2017612633061982208:=Nat.le_trans (Nat.mul_le_mul (Nat.mul_le_mul_left 7 hk) hk) (by decide)
theorem piece_nums (q k:Nat) (hq:q<37) (hk:k≤536870912):∃ a b c d s r:Nat,r≤40∧(k:Int)+1=(a:Int)∧(q:Int)*(a:Int)=(b:Int)∧7*(k:Int)=(c:Int)∧(c:Int)*(k:Int)=(d:Int)∧(s:Int).tmod 41=(r:Int)∧(b:Int)+(d:Int)=(s:Int)∧a≤536870913∧b≤19864223781∧c≤3758096384∧d≤2017612633061982208∧s≤2017612652926205989:=by
 have hb:=piece_b q k hq hk
 have hd:=piece_d k hk
 refine ⟨k+1,q*(k+1),7*k,7*k*k,q*(k+1)+7*k*k,(q*(k+1)+7*k*k)%41,Nat.le_of_lt_succ (Nat.mod_lt _ (by decide)),by rw[Int.natCast_add];rfl,by rw[Int.natCast_mul],by rw[Int.natCast_mul];rfl,by rw[←Int.natCast_mul],?_,by rw[←Int.natCast_add],Nat.succ_le_succ hk,hb,Nat.mul_le_mul_left 7 hk,hd,Nat.add_le_add hb hd⟩
 rw[Int.tmod_eq_emod_of_nonneg (Int.natCast_nonneg _)]
 exact (Int.natCast_emod _ 41).symm
set_option maxHeartbeats 800000 in
theorem begins_any (a b:ByteArray) (w:World) (r:List UInt8) (h:b.data.toList=a.data.toList++r):
  Calls Tryz.prog 78 #[.string a,.string b] w fun e w'=>e = .returned (.bool true)∧w'=w:=by
 have hl:a.size≤b.size:=by rw[←ba_len a,←ba_len b,h,List.length_append];omega
 have he:b.extract 0 a.size=a:=ba_ext (by rw[ext_take,h,List.take_append_of_le_length (by rw[ba_len];exact Nat.le_refl _),List.take_of_length_le (by rw[ba_len];exact Nat.le_refl _)])
 have j1:(a.size:Int)≤(b.size:Int):=by omega
 clear h
 go_enter Tryz.func78,Tryz.ntmps78
 go_wp2
 go_ret
 exact ⟨rfl,rfl⟩
theorem wrap64_nat {x:Int} {n:Nat} (h:x=(n:Int)) (hn:n≤9223372036854775807):wrap64 x=(n:Int):=by
 rw[h]
 exact IntWalk.wrap64_in _ (by omega)
theorem piece_wraps (q k:Nat) (hq:q<37) (hk:k≤536870912):∃ a b c d s r:Nat,r≤40∧wrap64 ((k:Int)+1)=(a:Int)∧wrap64 ((q:Int)*(a:Int))=(b:Int)∧wrap64 (7*(k:Int))=(c:Int)∧wrap64 ((c:Int)*(k:Int))=(d:Int)∧wrap64 ((b:Int)+(d:Int))=(s:Int)∧(s:Int).tmod 41=(r:Int)∧(s:Int)%41=(r:Int)∧wrap64 (r:Int)=(r:Int):=by
 obtain ⟨a,b,c,d,s,r,hr,e1,e2,e3,e4,e5,e6,ba,bb,bc,bd,bs⟩:=piece_nums q k hq hk
 refine ⟨a,b,c,d,s,r,hr,wrap64_nat e1 (Nat.le_trans ba (by decide)),wrap64_nat e2 (Nat.le_trans bb (by decide)),wrap64_nat e3 (Nat.le_trans bc (by decide)),wrap64_nat e4 (Nat.le_trans bd (by decide)),wrap64_nat e6 (Nat.le_trans bs (by decide)),e5,?_,wrap64_nat rfl (Nat.le_trans hr (by decide))⟩
 rw[←Int.tmod_eq_emod_of_nonneg (Int.natCast_nonneg _)]
 exact e5
set_option maxHeartbeats 400000 in
theorem piece_any (turn:Int) (k:Nat) (w:World) (h1 : -9223372036854775808≤turn) (h2:turn≤9223372036854775807) (hk:k≤536870912):
  Calls Tryz.prog 36 #[.int .i64 turn,.int .i64 (k:Nat)] w (Upto40 w):=by
 have HP:Hid (∀ w,Calls Tryz.prog 15 #[.int .i64 turn,.int .i64 ((37:Nat):Int)] w fun e w'=>e = .returned (.int .i64 (pickN turn 37:Nat))∧w'=w):=hide (fun w=>kpick_any turn 37 w h1 h2 (by decide) (by decide))
 obtain ⟨a,b,c,d,s,r,hr,t1,t2,t3,t4,t5,t6,t8,t7⟩:=piece_wraps (pickN turn 37) k (pickN_lt turn 37 (by decide)) hk
 generalize pickN turn 37=q at *
 have HR:=hide hr
 clear hr hk h1 h2
 go_enter Tryz.func36,Tryz.ntmps36
 go_wp2_with fail
 refine (HP.out _).mono ?_
 rintro e w1 ⟨rfl,rfl⟩
 clear HP
 go_wp2
 go_ret
 exact ⟨r,HR.out,rfl,rfl⟩
theorem u8_of (c:Int):∃ X:UInt8,c%256=((X.toNat:Nat):Int):=by
 have h0:0≤c%256:=Int.emod_nonneg _ (by decide)
 have h1:c%256<256:=Int.emod_lt_of_pos _ (by decide)
 refine ⟨UInt8.ofNat (c%256).toNat,?_⟩
 simp
 omega
theorem u8L_set (l:List UInt8) (i:Nat) (x:UInt8):u8L (l.set i x)=(u8L l).set i (.int .u8 ((x.toNat:Nat):Int)):=by
 unfold u8L
 rw[List.map_set]
def Text (n:Nat) (w:World) (e:Ending) (w':World):Prop:=∃ m:ByteArray,m.size=n∧e = .returned (.string m)∧Below w.heap.size w w'
set_option maxRecDepth 100000 in
set_option maxHeartbeats 800000 in
theorem master_any (c:Int) (w:World):Calls Tryz.prog 47 #[.int .i64 c] w (Text 32 w):=by
 have hmk:(Instr.makeSlice 67 (.int .i64 32) (.int .i64 32)).run Tryz.prog w = .ok (.slice (some ⟨w.heap.size,0,none⟩) 32 32) (w.alloc (.cells (u8L (List.replicate 32 0)).toArray 5)):=make_bytes 32 (by decide) w
 have hB:Blk (w.alloc (.cells (u8L (List.replicate 32 0)).toArray 5)) w.heap.size 5 (u8L (List.replicate 32 0)):=Blk.new rfl rfl
 have hbe:Below w.heap.size w (w.alloc (.cells (u8L (List.replicate 32 0)).toArray 5)):=(Below.refl _ _).alloc (Nat.le_refl _) _
 obtain ⟨w1,hw1⟩:∃ x,w.alloc (.cells (u8L (List.replicate 32 0)).toArray 5)=x:=⟨_,rfl⟩
 rw[hw1] at hmk hB hbe
 have c0:w1.cell? ⟨w.heap.size,0,none⟩=some (.int .u8 0):=hB.cell (i:=0) rfl
 have c31:w1.cell? ⟨w.heap.size,31,none⟩=some (.int .u8 0):=hB.cell (i:=31) rfl
 have f:=hB.frozen
 obtain ⟨X,hX⟩:=u8_of c
 have hR:Row ((w1.setCell ⟨w.heap.size,0,none⟩ (.int .u8 (c%256))).setCell ⟨w.heap.size,31,none⟩ (.int .u8 7)) w.heap.size 5 1 (.slice (some ⟨w.heap.size,0,none⟩) 32 32) 32 (u8L (((List.replicate 32 0).set 0 X).set 31 7)):=by
  rw[u8L_set,u8L_set,←hX]
  exact Row.set1 (Row.set1 (Row.newB hB (Nat.le_refl _) (by decide)) _) _
 obtain ⟨ao,cap,h1,h2,h3,hcv⟩:=Row.strAny hR
 have HE:=hide ((hbe.setCell (p:=⟨w.heap.size,0,none⟩) (Nat.le_refl _) (.int .u8 (c%256))).setCell (p:=⟨w.heap.size,31,none⟩) (Nat.le_refl _) (.int .u8 7))
 clear hw1 hB hR h1 h2 h3 hX hbe
 go_enter Tryz.func47,Tryz.ntmps47
 go_wp2
 go_ret
 exact ⟨_,by rw[two_size];simp,rfl,HE.out⟩
def Masters (n:Nat) (w:World) (e:Ending) (w':World):Prop:=∃ v,e = .returned v∧∃ l:List ByteArray,Row w' w.heap.size 9 1 v l.length (strV l)∧(n=1→l.length=1)∧1≤l.length∧l.length≤3∧(∀ m ∈ l,m.size=32)∧Below w.heap.size w w'
theorem all_app {l:List ByteArray} {m:ByteArray} (h:∀ x ∈ l,x.size=32) (hm:m.size=32):∀ x ∈ l++[m],x.size=32:=by
 intro x hx
 rcases List.mem_append.1 hx with h1 | h1
 ·exact h x h1
 ·rw[List.mem_singleton.1 h1];exact hm
set_option maxRecDepth 100000 in
set_option maxHeartbeats 1600000 in
theorem masters_any (t:ByteArray) (w:World) (ht:t.size≤9223372036854775807):Calls Tryz.prog 18 #[.string t] w (Masters t.size w):=by
 go_enter Tryz.func18,Tryz.ntmps18
 go_wp2
 go_loopw [3,4] (fun v vi wr=>∃ (k:Nat) (l:List ByteArray),k≤3∧k≤t.size∧vi = .int .i64 k∧l.length=k∧(∀ m ∈ l,m.size=32)∧Row wr w.heap.size 9 1 v k (strV l)∧Below w.heap.size w wr) (fun _ i _=>3-(intOf i).toNat)
 case atStart=>exact ⟨0,[],by omega,by omega,rfl,rfl,(fun m hm=>by cases hm),Row.nil _ _ _ _,Below.refl _ _⟩
 case round=>
  obtain ⟨k,l,hk3,hkt,rfl,hl,hm,hr,hbe⟩:=hrel
  have HL:=hide hl
  have HM:=hide hm
  have HR:=hide hr
  have HBE:=hide hbe
  obtain ⟨ao,cap,rfl,hd1,hd2⟩:=Row.anyN hr
  unfold maxLen at hd2
  clear hl hm hr hbe
  by_cases hlt:k<t.size∧k<3
  ·obtain ⟨h1,h2⟩:=hlt
   have j1:(k:Int)<(t.size:Int):=by omega
   have j2:(k:Int)<3:=by omega
   have hXl:t[k].toNat<256:=UInt8.toNat_lt _
   obtain ⟨X,hX⟩:∃ X,t[k].toNat=X:=⟨_,rfl⟩
   rw[hX] at hXl
   have tw:wrap64 (X:Int)=(X:Int):=IntWalk.wrap64_in _ (by omega)
   have H2:=hide h2
   go_wp2_with fail
   refine (master_any _ _).mono ?_
   rintro e w2 ⟨m,hms,rfl,hb2⟩
   have HMS:=hide hms
   have HR2:=hide (Row.after HR.out hb2)
   have HB2:=hide (HBE.out.trans (hb2.mono HBE.out.size))
   have hsz2:=HB2.out.size
   clear hb2 hms HR
   go_wp2_with (at_builtin;refine wpList_append_strB rfl (.tmp 22) (.tmp 24) rfl w.heap.size _ k _ rfl (HR2.out.alloc _) w2.heap.size _ rfl (World.cell?_alloc_at _ _ _ _ rfl) ?_ ?_ ?_;omega;(simp;omega);intro v3 w3 hr3 hg3 hat3)
   go_roundw
   case rel=>
    have hl:=HL.out
    exact ⟨k+1,l++[m],by omega,by omega,by go_num,by simp[hl],all_app HM.out HMS.out,hr3,Below.grown (HB2.out.alloc hsz2 _) hg3 (by simp;omega) (fun g hg=>(HR2.out.lt g hg).1)⟩
   case measure=>have:=H2.out;simp[intOf];omega
  ·by_cases h0:k=0
   ·subst h0
    have hts:t.size=0:=by omega
    have j1:¬ (0:Int)<(t.size:Int):=by omega
    clear hlt hkt hts
    go_wp2_with fail
    refine (master_any _ _).mono ?_
    rintro e w2 ⟨m,hms,rfl,hb2⟩
    have HMS:=hide hms
    have HR2:=hide (Row.after HR.out hb2)
    have HB2:=hide (HBE.out.trans (hb2.mono HBE.out.size))
    have hsz2:=HB2.out.size
    clear hb2 hms HR
    go_wp2_with (at_builtin;refine wpList_append_strB rfl (.tmp 30) (.tmp 32) rfl w.heap.size _ 0 _ rfl (HR2.out.alloc _) w2.heap.size _ rfl (World.cell?_alloc_at _ _ _ _ rfl) ?_ ?_ ?_;omega;(simp;omega);intro v3 w3 hr3 hg3 hat3)
    go_ret
    have hl:=HL.out
    exact ⟨_,rfl,l++[m],by simpa [hl] using hr3,(fun _=>by simp[hl]),by simp,by simp[hl],all_app HM.out HMS.out,Below.grown (HB2.out.alloc hsz2 _) hg3 (by simp;omega) (fun g hg=>(HR2.out.lt g hg).1)⟩
   ·have z0:((k:Int)==0)=false:=beq_eq_false_iff_ne.2 (by omega)
    have H1:=hide (show 1≤k∧k≤3∧(t.size=1→k=1) by omega)
    by_cases h1:k<t.size
    ·have j1:(k:Int)<(t.size:Int):=by omega
     have j2:¬ (k:Int)<3:=by omega
     go_wp2
     go_ret
     have hl:=HL.out
     exact ⟨_,rfl,l,by rw[hl];exact HR.out,by rw[hl];exact H1.out.2.2,by rw[hl];exact H1.out.1,by rw[hl];exact H1.out.2.1,HM.out,HBE.out⟩
    ·have j1:¬ (k:Int)<(t.size:Int):=by omega
     go_wp2
     go_ret
     have hl:=HL.out
     exact ⟨_,rfl,l,by rw[hl];exact HR.out,by rw[hl];exact H1.out.2.2,by rw[hl];exact H1.out.1,by rw[hl];exact H1.out.2.1,HM.out,HBE.out⟩
def Bts (w:World) (N:Nat) (v:Value) (wr:World):Prop:=(∃ l:List UInt8,l.length=N∧Row wr w.heap.size 5 1 v N (u8L l))∧Below w.heap.size w wr
set_option maxRecDepth 100000 in
set_option maxHeartbeats 1600000 in
theorem draws_any (c:Int) (n:Nat) (w:World) (_h1 : -9223372036854775808≤c) (_h2:c≤9223372036854775807) (hn:n≤1000):Calls Tryz.prog 19 #[.int .i64 c,.int .i64 (n:Nat)] w (Text (16*n) w):=by
 obtain ⟨N,hN⟩:∃ N:Nat,N=n*16:=⟨_,rfl⟩
 have hw:(n:Int)*16=(N:Int):=by omega
 have hmk:=make_cap N (by omega)
 have hrow:Row (w.alloc (.cells (u8L (List.replicate N 0)).toArray 5)) w.heap.size 5 1 (.slice (some ⟨w.heap.size,0,none⟩) 0 N) 0 (u8L []):=
  ⟨rfl,.inr ⟨w.heap.size,N,u8L (List.replicate N 0),rfl,Nat.le_refl _,(Blk.new rfl rfl:Blk _ _ _ (u8L (List.replicate N 0))).marked,Nat.zero_le _,by unfold maxLen;omega,by simp[u8L],rfl⟩⟩
 have HB0:=hide (show Bts w 0 (.slice (some ⟨w.heap.size,0,none⟩) 0 N) (w.alloc (.cells (u8L (List.replicate N 0)).toArray 5)) from ⟨⟨[],rfl,hrow⟩,(Below.refl _ _).alloc (Nat.le_refl _) _⟩)
 have HN:=hide hN
 clear hN hrow
 go_enter Tryz.func19,Tryz.ntmps19
 go_wp2
 clear hmk hw
 go_loopw [5,6] (fun v i wr=>∃ j:Nat,j≤n∧i = .int .i64 j∧Bts w (16*j) v wr) (fun _ i _=>n-(intOf i).toNat)
 case atStart=>exact ⟨0,Nat.zero_le _,rfl,HB0.out⟩
 case round=>
  clear HB0
  obtain ⟨j,hj,rfl,hB⟩:=hrel
  have HB:=hide hB
  obtain ⟨⟨l0,hl0,hr0⟩,hbe0⟩:=hB
  obtain ⟨ao,cap,rfl,hc1,hc2,hcv⟩:=Row.strAny hr0
  clear hr0 hbe0
  by_cases hlt:j<n
  ·have jk:(j:Int)<(n:Int):=by omega
   clear hcv hl0 hc1
   go_wp2
   go_loopw [5,7] (fun v i w1=>∃ k:Nat,k≤8∧i = .int .i64 k∧Bts w (16*j+k) v w1) (fun _ i _=>8-(intOf i).toNat)
   case atStart=>exact ⟨0,Nat.zero_le _,rfl,HB.out⟩
   case round=>
    obtain ⟨k,hk,rfl,hBk⟩:=hrel
    obtain ⟨⟨l1,hl1,hr1⟩,hbe1⟩:=hBk
    have HL1:=hide hl1
    have HR1:=hide hr1
    have HBE1:=hide hbe1
    have hsz:=hbe1.size
    obtain ⟨R1,hR1⟩:∃ x:Nat,16*j+k=x:=⟨_,rfl⟩
    have hRb:R1≤20000:=by omega
    rw[hR1] at HR1 HL1 hr1
    have HQ1:=hide hR1
    obtain ⟨ao1,cap1,rfl,hd1,hd2⟩:=Row.anyN hr1
    clear hl1 hr1 hbe1 hR1
    unfold maxLen at hd2
    by_cases h8:k<8
    ·obtain ⟨E,hE⟩:∃ E:Nat,8*k=E:=⟨_,rfl⟩
     have tE:8*(k:Int)=(E:Int):=by omega
     have tm:(E:Int)%18446744073709551616=(E:Int):=by omega
     have tmin:min E 64=E:=by omega
     have HE:=hide hE
     have H8:=hide h8
     clear hE
     obtain ⟨X,hX1⟩:=u8_of (c/2 ^ E)
     have X1:=hide hX1
     clear hX1
     go_wp2_with (at_builtin;refine wpList_append_u8 rfl (.tmp 21) (.tmp 28) rfl w.heap.size _ R1 _ rfl (HR1.out.alloc _) ⟨wr.heap.size,0,none⟩ 1 1 [X] rfl rfl (one_news X1.out (World.cell?_alloc_at _ _ _ _ rfl)) ?_ ?_ ?_;omega;(simp;omega);intro v1 w1 hr1 hg1 hat1)
     go_roundw
     case rel=>
      have hl1:=HL1.out
      exact ⟨k+1,by omega,by go_num,⟨l1++[X],by rw[List.length_append,hl1,←HQ1.out];rfl,by rw[show 16*j+(k+1)=R1+1 by rw[←HQ1.out];rfl];exact hr1⟩,Below.grown (HBE1.out.alloc hsz _) hg1 (by simp;omega) (fun k hk=>(HR1.out.lt k hk).1)⟩
     case measure=>have:=H8.out;simp[intOf];omega
    ·have hk8:k=8:=by omega
     subst hk8
     have HB8:=hide (show Bts w R1 (.slice ao1 R1 cap1) wr from ⟨⟨l1,HL1.out,HR1.out⟩,HBE1.out⟩)
     clear HL1 HR1 HBE1 hk h8
     go_wp2
     go_loopw [5,8] (fun v i w1=>∃ k:Nat,k≤8∧i = .int .i64 k∧Bts w (R1+k) v w1) (fun _ i _=>8-(intOf i).toNat)
     case atStart=>exact ⟨0,Nat.zero_le _,rfl,HB8.out⟩
     case round=>
      clear HB8
      obtain ⟨k,hk,rfl,hBk⟩:=hrel
      obtain ⟨⟨l2,hl2,hr2⟩,hbe2⟩:=hBk
      have HL2:=hide hl2
      have HR2:=hide hr2
      have HBE2:=hide hbe2
      have hsz2:=hbe2.size
      obtain ⟨R2,hR2⟩:∃ x:Nat,R1+k=x:=⟨_,rfl⟩
      have hRb:R2≤20000:=by have:=HQ1.out;omega
      rw[hR2] at HR2 HL2 hr2
      have HQ2:=hide hR2
      obtain ⟨ao2,cap2,rfl,hd3,hd4⟩:=Row.anyN hr2
      clear hl2 hr2 hbe2 hR2
      unfold maxLen at hd4
      by_cases h8:k<8
      ·obtain ⟨X,hX1⟩:=u8_of ((j:Int)+(k:Int))
       have X1:=hide hX1
       have H8:=hide h8
       clear hX1
       go_wp2_with (at_builtin;refine wpList_append_u8 rfl (.tmp 34) (.tmp 39) rfl w.heap.size _ R2 _ rfl (HR2.out.alloc _) ⟨wr.heap.size,0,none⟩ 1 1 [X] rfl rfl (one_news X1.out (World.cell?_alloc_at _ _ _ _ rfl)) ?_ ?_ ?_;omega;(simp;omega);intro v1 w1 hr1 hg1 hat1)
       go_roundw
       case rel=>
        have hl2:=HL2.out
        have hb:Bts w (R1+(k+1)) v1 w1:=⟨⟨l2++[X],by rw[List.length_append,hl2,←HQ2.out];rfl,by rw[show R1+(k+1)=R2+1 by rw[←HQ2.out];rfl];exact hr1⟩,Below.grown (HBE2.out.alloc hsz2 _) hg1 (by simp;omega) (fun k hk=>(HR2.out.lt k hk).1)⟩
        (repeat apply Exists.intro)
        exact ⟨⟨k+1,by omega,by go_num,hb⟩,rfl⟩
       case measure=>have:=H8.out;simp[intOf];omega
      ·have hk8:k=8:=by omega
       subst hk8
       clear hk h8
       have HLT:=hide hlt
       go_wp2
       go_roundw
       case rel=>
        have e1:=HQ1.out
        have e2:=HQ2.out
        have hb:Bts w (16*(j+1)) (.slice ao2 R2 cap2) wr:=by
         rw[show 16*(j+1)=R2 by omega]
         exact ⟨⟨l2,HL2.out,HR2.out⟩,HBE2.out⟩
        exact ⟨j+1,by have:=HLT.out;omega,by go_num,hb⟩
       case measure=>have:=HLT.out;simp[intOf];omega
  ·have hjn:j=n:=by omega
   subst hjn
   have HC:=hide hl0
   clear hl0 hlt
   go_wp2
   go_ret
   exact ⟨_,by rw[two_size];exact HC.out,rfl,HB.out.2⟩
namespace Ref
theorem begin_good {l:List ByteArray} {s:ByteArray} (h1:1≤l.length) (h3:l.length≤3) (hm:∀ m ∈ l,m.size=32) (hs:16*(l.length+2)≤s.size):beginE l s 0=0:=by
 have hc:chkM l=0:=by
  unfold chkM
  rw[if_neg (by omega),if_neg]
  rintro ⟨i,hi,h⟩
  refine h ?_
  rw[List.getD_eq_getElem?_getD,List.getElem?_eq_getElem hi]
  exact hm _ (List.getElem_mem hi)
 unfold beginE
 rw[if_neg (by rw[hc];simp),if_pos (by omega)]
theorem newE_eq {l:List ByteArray} {s:ByteArray} (hb:beginE l s 0=0) (k:Snk):newE l s 0 k=if k.ok (head l s 0)=false then 16 else (k.put (head l s 0)).err (pdraw l s 0):=by
 unfold newE
 rw[if_neg (by rw[hb];simp)]
theorem newK_eq {l:List ByteArray} {s:ByteArray} (hb:beginE l s 0=0) (k:Snk):newK l s 0 k=if k.ok (head l s 0)=false then k.put (head l s 0) else (k.put (head l s 0)).put (pdraw l s 0):=by
 unfold newK
 rw[if_neg (by rw[hb];simp)]
theorem new_good {l:List ByteArray} {s:ByteArray} {k:Snk} (hb:beginE l s 0=0) (hk:k.got=⟨#[]⟩) (X:List UInt8) (hne:newE l s 0 k=0):
  Good (pkey l s 0).data.toList X ((head l s 0).data.toList++(pdraw l s 0).data.toList) 0 ⟨0,[],newK l s 0 k⟩:=by
 have h0:k.got.data.toList=[]:=by rw[hk]
 refine ⟨rfl,by simp,?_⟩
 show (newK l s 0 k).got.data.toList=_
 rw[newE_eq hb] at hne
 rw[newK_eq hb]
 by_cases h1:k.ok (head l s 0)=false
 ·rw[if_pos h1] at hne;cases hne
 ·rw[if_neg h1] at hne ⊢
  have h1':k.ok (head l s 0)=true:=by simpa using h1
  rcases (k.put (head l s 0)).err_cases (pdraw l s 0) with ⟨_,e⟩ | ⟨e,_⟩
  ·rw[put_got e,put_got h1',h0,List.nil_append]
   show _=_++[]
   rw[List.append_nil]
  ·rw[e] at hne;cases hne
theorem new_room {l:List ByteArray} {s:ByteArray} {k:Snk} (hb:beginE l s 0=0) (hk:k.got=⟨#[]⟩) (hp:k.pos=0):(newK l s 0 k).got.size≤2000∧(newK l s 0 k).pos≤2∧(newK l s 0 k).plan=k.plan:=by
 obtain ⟨s1,s2⟩:=head_size hb
 have e0:k.got.size=0:=by rw[hk];rfl
 have a1:=k.put_size (head l s 0)
 have a2:=k.put_pos (head l s 0)
 have b1:=(k.put (head l s 0)).put_size (pdraw l s 0)
 have b2:=(k.put (head l s 0)).put_pos (pdraw l s 0)
 rw[newK_eq hb]
 split
 ·exact ⟨by omega,by omega,rfl⟩
 ·exact ⟨by omega,by omega,rfl⟩
end Ref
structure FlS (w:World) (v:Value) (l:List ByteArray) (wi:World):Prop where
 two:2≤w.heap.size
 tabs:Tabs wi
 strs:Strs wi v l
 be:Below w.heap.size w wi
theorem FlS.after {w:World} {v:Value} {l:List ByteArray} {wi wj:World} (h:FlS w v l wi) (hb:Below wi.heap.size wi wj):FlS w v l wj:=⟨h.two,h.tabs.after hb,h.strs.after hb,h.be.trans (hb.mono h.be.size)⟩
theorem FlS.grown {w:World} {v:Value} {l:List ByteArray} {wi wj:World} {b:Nat} (h:FlS w v l wi) (hg:wi.grownBy wj (some b)) (hb:w.heap.size≤b) (hv:∀ g o n c,v = .slice (some ⟨g,o,none⟩) n c→0<l.length→g≠b):FlS w v l wj:=
 ⟨h.two,h.tabs.grown hg (Nat.le_trans h.two hb),h.strs.grown hg hv,h.be.trans (RowKit.Below.of_grown hg hb h.be.size)⟩
theorem FlS.apart {w:World} {v:Value} {l:List ByteArray} {wi:World} (h:FlS w v l wi) {b:Nat} (hb:wi.heap.size≤b):∀ g o n c,v = .slice (some ⟨g,o,none⟩) n c→0<l.length→g≠b:=fun g o n c e hl=>Nat.ne_of_lt (Nat.lt_of_lt_of_le (h.strs.blt g o n c e hl) hb)
def fileB (l:List ByteArray) (d text:ByteArray):ByteArray:=⟨(Ref.file l d 0 text.data.toList).toArray⟩
set_option maxHeartbeats 800000 in
theorem zeros_any (w:World):Calls Tryz.prog 33 #[] w fun e w'=>e = .returned (.string ⟨(nought 12).toArray⟩)∧Below w.heap.size w w':=by
 have hmk:(Instr.makeSlice 67 (.int .i64 12) (.int .i64 12)).run Tryz.prog w = .ok (.slice (some ⟨w.heap.size,0,none⟩) 12 12) (w.alloc (.cells (u8L (List.replicate 12 0)).toArray 5)):=make_bytes 12 (by decide) w
 have hB:Blk (w.alloc (.cells (u8L (List.replicate 12 0)).toArray 5)) w.heap.size 5 (u8L (List.replicate 12 0)):=Blk.new rfl rfl
 have hbe:Below w.heap.size w (w.alloc (.cells (u8L (List.replicate 12 0)).toArray 5)):=(Below.refl _ _).alloc (Nat.le_refl _) _
 obtain ⟨w1,hw1⟩:∃ x,w.alloc (.cells (u8L (List.replicate 12 0)).toArray 5)=x:=⟨_,rfl⟩
 rw[hw1] at hmk hB hbe
 have hR:Row w1 w.heap.size 5 1 (.slice (some ⟨w.heap.size,0,none⟩) 12 12) 12 (u8L (nought 12)):=Row.newB hB (Nat.le_refl _) (by decide)
 obtain ⟨ao,cap,h1,h2,h3,hcv⟩:=Row.strAny hR
 have HE:=hide hbe
 clear hw1 hB hR h1 h2 h3 hbe
 go_enter Tryz.func33,Tryz.ntmps33
 go_wp2
 go_ret
 exact ⟨rfl,HE.out⟩
theorem getD_take (T:List UInt8) {j i:Nat} (h:i<j):(T.take j).getD i 0=T.getD i 0:=by
 rw[List.getD_eq_getElem?_getD,List.getElem?_take,if_pos h,←List.getD_eq_getElem?_getD]
theorem Hd.line_take (T:List UInt8) (j:Nat):∀ i,i≤j→Hd.lineAt (T.take j) i=Hd.lineAt T i
 | 0,_=>rfl
 | i+1,h=>by
  show (if (T.take j).getD i 0=10 then i+1 else Hd.lineAt (T.take j) i)=(if T.getD i 0=10 then i+1 else Hd.lineAt T i)
  rw[Hd.line_take T j i (by omega),getD_take T (by omega)]
theorem Hd.whole_take (T:List UInt8) (m:Nat):Hd.wholeAt (T.take (m+1)) m↔Hd.wholeAt T m:=by
 unfold Hd.wholeAt
 rw[Hd.line_take T (m+1) m (by omega),getD_take T (by omega)]
 have hle:=Hd.lineAt_le T m
 constructor
 ·rintro ⟨h1,h2,h3⟩
  rw[List.drop_take,List.take_take,Nat.min_eq_left (by omega)] at h3
  exact ⟨h1,h2,h3⟩
 ·rintro ⟨h1,h2,h3⟩
  refine ⟨h1,h2,?_⟩
  rw[List.drop_take,List.take_take,Nat.min_eq_left (by omega)]
  exact h3
theorem getD_byte (t:ByteArray) (k:Nat) (hk:k<t.size):t.data.toList.getD k 0=t[k]:=by
 rw[List.getD_eq_getElem?_getD,List.getElem?_eq_getElem (by rw[ba_len];exact hk)]
 rfl
theorem whole_fin {t:ByteArray} {m:Nat} (h10:t.data.toList.getD m 0=10) (k:Nat) (hl:Hd.lineAt t.data.toList m=k) (bb:Bool) (hb:bb=decide (k+3≤m∧(t.data.toList.drop k).take 3=Hd.mark)):bb=decide (Hd.wholeAt t.data.toList m):=by
 have h:Hd.wholeAt t.data.toList m↔k+3≤m∧(t.data.toList.drop k).take 3=Hd.mark:=by unfold Hd.wholeAt;rw[h10,hl];simp
 rw[hb]
 by_cases h2:Hd.wholeAt t.data.toList m
 ·rw[decide_eq_true h2,decide_eq_true (h.1 h2)]
 ·rw[decide_eq_false h2,decide_eq_false (fun h3=>h2 (h.2 h3))]
set_option maxRecDepth 100000 in
set_option maxHeartbeats 1600000 in
theorem kwhole_any (t:ByteArray) (m:Nat) (w:World) (ht:t.size=m+1) (hm:m≤1000):
  Calls Tryz.prog 86 #[.string t] w fun e w'=>e = .returned (.bool (decide (Hd.wholeAt t.data.toList m)))∧w'=w:=by
 have hb:=getD_byte t
 obtain ⟨N,hN⟩:∃ N:Nat,t.size=N:=⟨_,rfl⟩
 have HN:=hide hN
 have z0:((N:Int)==0)=false:=beq_eq_false_iff_ne.2 (by omega)
 have n1:(N:Int)-1=(m:Int):=by omega
 have hmN:m<N:=by omega
 by_cases h10:t[m]=10
 ·have hX:t[m].toNat=10:=by rw[h10];rfl
  have HFIN:=hide (fun k hl bb hb'=>whole_fin (t:=t) (m:=m) (by rw[hb m (by omega),h10]) k hl bb hb')
  generalize decide (Hd.wholeAt t.data.toList m)=WB at HFIN ⊢
  have HEX:=hide (fun q=>show (t.extract q (q+3)).data.toList=(t.data.toList.drop q).take 3 by rw[sub_list,Nat.add_sub_cancel_left])
  have HB:=hide hb
  clear hb h10
  go_enter Tryz.func86,Tryz.ntmps86
  go_wp2
  go_loopw [4] (fun v wr=>wr=w∧∃ k:Nat,k≤m∧v = .int .i64 (k:Nat)∧Hd.lineAt t.data.toList m=Hd.lineAt t.data.toList k) (fun v _=>(intOf v).toNat)
  case atStart=>exact ⟨rfl,m,Nat.le_refl _,rfl,rfl⟩
  case round=>
   obtain ⟨rfl,k,hk,rfl,hlk⟩:=hrel
   have HLK:=hide hlk
   clear hlk
   obtain ⟨d,hd⟩:∃ d:Nat,d=m-k:=⟨_,rfl⟩
   have td:(m:Int)-(k:Int)=(d:Int):=by omega
   have HDD:=hide hd
   clear hd
   have HEX:=hide (HEX.out k)
   by_cases hk0:k=0
   ·subst hk0
    have hlm:Hd.lineAt t.data.toList m=0:=HLK.out
    by_cases h3:3≤d
    ·have j3:(3:Int)≤(d:Int):=by omega
     have j4:(0:Int)≤(0:Int)+3:=by omega
     have j5:(0:Int)+3≤(N:Int):=by omega
     by_cases hmk:(t.data.toList.drop 0).take 3=Hd.mark
     ·have he:t.extract 0 (0+3)=⟨#[45,45,45]⟩:=ba_ext (by rw[HEX.out,hmk];rfl)
      have HR:=hide (HFIN.out 0 hlm true (decide_eq_true (show 0+3≤m∧_ from ⟨by have:=HDD.out;omega,hmk⟩)).symm)
      clear hmk
      go_wp2
      go_ret
      exact ⟨by rw[←HR.out];rfl,rfl⟩
     ·have he:((t.extract 0 (0+3)).toList==[45,45,45])=false:=str_neL (by rw[HEX.out];exact hmk)
      have HR:=hide (HFIN.out 0 hlm false (decide_eq_false (show ¬ (0+3≤m∧_) from fun h=>hmk h.2)).symm)
      clear hmk
      go_wp2
      go_ret
      exact ⟨by rw[←HR.out];rfl,rfl⟩
    ·have j3:¬ (3:Int)≤(d:Int):=by omega
     have HR:=hide (HFIN.out 0 hlm false (decide_eq_false (show ¬ (0+3≤m∧_) from fun h=>by have:=h.1;have:=HDD.out;omega)).symm)
     go_wp2
     go_ret
     exact ⟨by rw[←HR.out];rfl,rfl⟩
   ·obtain ⟨p,hp⟩:∃ p:Nat,k=p+1:=⟨k-1,by omega⟩
    have tp:(k:Int)-1=(p:Int):=by omega
    have jk:(0:Int)<(k:Int):=by omega
    have hpN:p<N:=by omega
    have hpt:p<t.size:=by omega
    by_cases hp10:t[p]=10
    ·have hY:t[p].toNat=10:=by rw[hp10];rfl
     have hlm:Hd.lineAt t.data.toList m=k:=by
      rw[HLK.out,hp,Hd.lineAt,if_pos]
      rw[HB.out p hpt,hp10]
     clear hp10 hp
     by_cases h3:3≤d
     ·have j3:(3:Int)≤(d:Int):=by omega
      have j4:(k:Int)≤(k:Int)+3:=by omega
      have j5:(k:Int)+3≤(N:Int):=by omega
      by_cases hmk:(t.data.toList.drop k).take 3=Hd.mark
      ·have he:t.extract k (k+3)=⟨#[45,45,45]⟩:=ba_ext (by rw[HEX.out,hmk];rfl)
       have HR:=hide (HFIN.out k hlm true (decide_eq_true (show k+3≤m∧_ from ⟨by have:=HDD.out;omega,hmk⟩)).symm)
       clear hmk
       go_wp2
       go_ret
       exact ⟨by rw[←HR.out];rfl,rfl⟩
      ·have he:((t.extract k (k+3)).toList==[45,45,45])=false:=str_neL (by rw[HEX.out];exact hmk)
       have HR:=hide (HFIN.out k hlm false (decide_eq_false (show ¬ (k+3≤m∧_) from fun h=>hmk h.2)).symm)
       clear hmk
       go_wp2
       go_ret
       exact ⟨by rw[←HR.out];rfl,rfl⟩
     ·have j3:¬ (3:Int)≤(d:Int):=by omega
      have HR:=hide (HFIN.out k hlm false (decide_eq_false (show ¬ (k+3≤m∧_) from fun h=>by have:=h.1;have:=HDD.out;omega)).symm)
      go_wp2
      go_ret
      exact ⟨by rw[←HR.out];rfl,rfl⟩
    ·obtain ⟨Y,hY⟩:∃ Y:Nat,t[p].toNat=Y:=⟨_,rfl⟩
     have zY:((Y:Int)==10)=false:=beq_eq_false_iff_ne.2 (fun e=>hp10 (UInt8.toNat_inj.1 (by rw[hY];show Y=10;omega)))
     have zn:((Y:Int) != 10)=true:=by simp only[bne,zY];rfl
     have hnx:Hd.lineAt t.data.toList m=Hd.lineAt t.data.toList p:=by
      rw[HLK.out,hp,Hd.lineAt,if_neg]
      rw[HB.out p hpt]
      exact hp10
     have HNX:=hide hnx
     have HP:=hide hp
     clear hnx hp10 hp
     go_wp2
     go_roundw
     case rel=>
      (repeat apply Exists.intro)
      exact ⟨⟨trivial,p,by have:=HP.out;omega,rfl,HNX.out⟩,rfl⟩
     case measure=>have:=HP.out;simp[intOf];omega
 ·have hd:¬ Hd.wholeAt t.data.toList m:=fun h=>h10 (by rw[←hb m (by omega)];exact h.1)
  rw[decide_eq_false hd]
  obtain ⟨Y,hY⟩:∃ Y:Nat,t[m].toNat=Y:=⟨_,rfl⟩
  have zY:((Y:Int)==10)=false:=beq_eq_false_iff_ne.2 (fun e=>h10 (UInt8.toNat_inj.1 (by rw[hY];show Y=10;omega)))
  have zn:((Y:Int) != 10)=true:=by simp only[bne,zY];rfl
  clear hd hb h10
  go_enter Tryz.func86,Tryz.ntmps86
  go_wp2
  go_ret
  exact ⟨rfl,rfl⟩
def TopO (T:List UInt8) (r:Int):Prop:=(∃ k,k<T.length∧k<284∧Hd.wholeAt T k∧Hd.noneTo T k∧r=((k+1:Nat):Int))∨(Hd.noneTo T (min T.length 284)∧r = -1)
set_option maxRecDepth 100000 in
set_option maxHeartbeats 800000 in
theorem topOf_any (b:ByteArray) (w:World) (hb:b.size≤1099511627776):
  Calls Tryz.prog 52 #[.string b] w fun e w'=>∃ r,TopO b.data.toList r∧e = .returned (.int .i64 r)∧w'=w:=by
 obtain ⟨N,hN⟩:∃ N:Nat,b.size=N:=⟨_,rfl⟩
 have HN:=hide (show b.data.toList.length=N by rw[ba_len,hN])
 go_enter Tryz.func52,Tryz.ntmps52
 go_wp2
 go_loopw [3] (fun v wr=>wr=w∧∃ k:Nat,k≤284∧k≤N∧v = .int .i64 ((k+1:Nat):Int)∧Hd.noneTo b.data.toList k) (fun v _=>286-(intOf v).toNat)
 case atStart=>exact ⟨rfl,0,by decide,Nat.zero_le _,rfl,fun i hi=>absurd hi (Nat.not_lt_zero _)⟩
 case round=>
  obtain ⟨rfl,k,hk,hkN,rfl,hno⟩:=hrel
  have HNO:=hide hno
  clear hno
  obtain ⟨k1,hk1⟩:∃ k1:Nat,k1=k+1:=⟨_,rfl⟩
  rw[←hk1]
  by_cases hlt:k<N∧k<284
  ·have j1:(k1:Int)≤(N:Int):=by omega
   have j2:(k1:Int)≤284:=by omega
   have hxz:(b.extract 0 k1).size=k+1:=by rw[ByteArray.size_extract];omega
   have HWH:=hide (fun w=>kwhole_any (b.extract 0 k1) k w hxz (by omega))
   have HW2:=hide (show Hd.wholeAt (b.extract 0 k1).data.toList k↔Hd.wholeAt b.data.toList k by rw[ext_take,hk1];exact Hd.whole_take _ _)
   have HLT:=hide hlt
   have HK1:=hide hk1
   clear hlt hxz hk1
   by_cases hw:Hd.wholeAt b.data.toList k
   ·rw[decide_eq_true (HW2.out.2 hw)] at HWH
    have HW:=hide hw
    clear hw
    go_wp2_with fail
    refine (HWH.out _).mono ?_
    rintro e w1 ⟨rfl,rfl⟩
    clear HWH
    go_wp2
    go_ret
    exact ⟨_,.inl ⟨k,by rw[HN.out];exact HLT.out.1,HLT.out.2,HW.out,HNO.out,rfl⟩,by rw[←HK1.out];rfl,rfl⟩
   ·rw[decide_eq_false (fun h=>hw (HW2.out.1 h))] at HWH
    have HW:=hide hw
    clear hw
    go_wp2_with fail
    refine (HWH.out _).mono ?_
    rintro e w1 ⟨rfl,rfl⟩
    clear HWH
    go_wp2
    go_roundw
    case rel=>
     have h1:=HLT.out
     have h2:=HK1.out
     have hno:Hd.noneTo b.data.toList (k+1):=fun i hi=>by
      rcases Nat.lt_or_ge i k with h | h
      ·exact HNO.out i h
      ·obtain rfl:i=k:=by omega
       exact HW.out
     exact ⟨trivial,k+1,by omega,by omega,by rw[←h2];go_num,hno⟩
    case measure=>have:=HLT.out;have:=HK1.out;simp[intOf];omega
  ·have hmin:min N 284=k:=by omega
   have HM:=hide hmin
   by_cases h1:k<N
   ·have j1:(k1:Int)≤(N:Int):=by omega
    have j2:¬ (k1:Int)≤284:=by omega
    clear hmin hk1
    go_wp2
    go_ret
    exact ⟨-1,.inr ⟨by rw[HN.out,HM.out];exact HNO.out,rfl⟩,rfl,rfl⟩
   ·have j1:¬ (k1:Int)≤(N:Int):=by omega
    clear hmin hk1
    go_wp2
    go_ret
    exact ⟨-1,.inr ⟨by rw[HN.out,HM.out];exact HNO.out,rfl⟩,rfl,rfl⟩
theorem ext_drop (b:ByteArray) (a:Nat):(b.extract a b.size).data.toList=b.data.toList.drop a:=by rw[sub_list,List.take_of_length_le (by rw[List.length_drop,ba_len];exact Nat.le_refl _)]
theorem box_cut (b:ByteArray) (k:Nat) (hN:32*k≤b.size):(b.extract (32*k) b.size).size=b.size-32*k∧(b.extract (32*k) b.size).extract 0 32=⟨(Ref.boxI b.data.toList k).toArray⟩∧(b.extract (32*k) b.size).extract 32 (b.size-32*k)=b.extract (32*(k+1)) b.size:=by
 have hs:(b.extract (32*k) b.size).size=b.size-32*k:=by rw[ByteArray.size_extract];omega
 refine ⟨hs,?_,?_⟩
 ·apply ba_ext
  rw[ext_take,ext_drop]
  rfl
 ·apply ba_ext
  rw[sub_list,ext_drop,ext_drop,List.drop_drop,List.take_of_length_le (by rw[List.length_drop,ba_len];omega)]
  rfl
set_option maxRecDepth 100000 in
set_option maxHeartbeats 1600000 in
theorem boxes_any (b:ByteArray) (w:World) (hb:b.size≤34359738368):
  Calls Tryz.prog 55 #[.string b] w fun e w'=>∃ v,e = .returned v∧Row w' w.heap.size 9 1 v (Ref.boxN b.size) (strV (Ref.boxesL b.data.toList (Ref.boxN b.size)))∧Below w.heap.size w w':=by
 obtain ⟨N,hN⟩:∃ N:Nat,b.size=N:=⟨_,rfl⟩
 have hcut:=box_cut b
 rw[hN] at hcut hb ⊢
 have HCUT:=hide hcut
 have H0:=hide (show b=b.extract (32*0) N from ba_ext (by rw[sub_list,←hN,List.take_of_length_le (by rw[List.length_drop,ba_len];exact Nat.le_refl _)];rfl))
 have HLN:=hide (show b.data.toList.length=N by rw[ba_len,hN])
 clear hcut hN
 go_enter Tryz.func55,Tryz.ntmps55
 go_wp2
 go_loopw [0,3] (fun vb v wr=>∃ k:Nat,(k=0∨32*k<N)∧vb = .string (b.extract (32*k) N)∧Row wr w.heap.size 9 1 v k (strV (Ref.boxesL b.data.toList k))∧Below w.heap.size w wr) (fun vb _ _=>strLen vb)
 case atStart=>exact ⟨0,.inl rfl,by rw[←H0.out],Row.nil _ _ _ _,Below.refl _ _⟩
 case round=>
  clear H0
  obtain ⟨k,hk,rfl,hr,hbe⟩:=hrel
  have hkN:32*k≤N:=by omega
  obtain ⟨c1,c2,c3⟩:=HCUT.out k hkN
  have HR:=hide hr
  have HBE:=hide hbe
  have hsz:=hbe.size
  obtain ⟨ao,cap,rfl,hd1,hd2⟩:=Row.anyN hr
  unfold maxLen at hd2
  clear hr hbe
  by_cases hlt:32<N-32*k
  ·have j1:(32:Int)<((b.extract (32*k) N).size:Int):=by omega
   have j2:(32:Int)≤((b.extract (32*k) N).size:Int):=by omega
   rw[←c1] at c3
   have HNX:=hide (Ref.boxesL_succ b.data.toList k)
   have HC3:=hide c3
   have HLT:=hide hlt
   have HC1:=hide c1
   generalize hTX:b.extract (32*k) N=TX at *
   generalize (⟨(Ref.boxI b.data.toList k).toArray⟩:ByteArray)=BX at *
   clear c1 c3 hlt
   go_wp2_with (at_builtin;refine wpList_append_strB rfl (.tmp 7) (.tmp 10) rfl w.heap.size _ k _ rfl (HR.out.alloc _) wr.heap.size _ rfl (World.cell?_alloc_at _ _ _ _ rfl) ?_ ?_ ?_;omega;(simp;omega);intro v3 w3 hr3 hg3 hat3)
   go_roundw
   case rel=>
    have h1:=HLT.out
    refine ⟨k+1,by omega,by rw[HC3.out],?_,Below.grown (HBE.out.alloc hsz _) hg3 (by simp;omega) (fun k hk=>(HR.out.lt k hk).1)⟩
    rw[HNX.out]
    exact hr3
   case measure=>
    have h1:=HLT.out
    have h2:=HC1.out
    show strLen (.string (TX.extract 32 TX.size))<strLen (.string TX)
    show (TX.extract 32 TX.size).size<TX.size
    rw[ByteArray.size_extract]
    omega
  ·have j1:¬ (32:Int)<((b.extract (32*k) N).size:Int):=by omega
   by_cases h0:N-32*k=0
   ·have hN0:N=0:=by omega
    have hk0:k=0:=by omega
    have hTX:b.extract (32*k) N=ByteArray.empty:=ba_ext (by
     have h0:(b.extract (32*k) N).data.toList.length=0:=by rw[ba_len];omega
     rw[List.eq_nil_of_length_eq_zero h0]
     rfl)
    have HBN:=hide (show ∀ v,Row wr w.heap.size 9 1 v k (strV (Ref.boxesL b.data.toList k))→Row wr w.heap.size 9 1 v (Ref.boxN N) (strV (Ref.boxesL b.data.toList (Ref.boxN N))) from fun v h=>by rw[show Ref.boxN N=k by rw[hN0,hk0];rfl];exact h)
    rw[hTX]
    clear hTX c1 c2 c3 HCUT hN0 hk0 h0 hk
    go_wp2
    go_ret
    exact ⟨_,rfl,HBN.out _ HR.out,HBE.out⟩
   ·have zt:(b.extract (32*k) N).toList.isEmpty=false:=str_isne (fun e=>h0 (by
     have h0:(b.extract (32*k) N).data.toList.length=0:=by rw[e];rfl
     rw[ba_len] at h0
     omega))
    have HBN:=hide (show Ref.boxN N=k+1 by unfold Ref.boxN;omega)
    have hlast:b.extract (32*k) N=⟨(Ref.boxI b.data.toList k).toArray⟩:=by
     rw[←c2]
     exact ba_ext (by rw[ext_take,List.take_of_length_le (by rw[ba_len];omega)])
    have HNX:=hide (Ref.boxesL_succ b.data.toList k)
    rw[←hlast] at HNX
    generalize hTX:b.extract (32*k) N=TX at *
    clear hlast c1 c2 c3 HCUT
    go_wp2_with (at_builtin;refine wpList_append_strB rfl (.tmp 16) (.tmp 18) rfl w.heap.size _ k _ rfl (HR.out.alloc _) wr.heap.size _ rfl (World.cell?_alloc_at _ _ _ _ rfl) ?_ ?_ ?_;omega;(simp;omega);intro v3 w3 hr3 hg3 hat3)
    go_ret
    refine ⟨_,rfl,?_,Below.grown (HBE.out.alloc hsz _) hg3 (by simp;omega) (fun k hk=>(HR.out.lt k hk).1)⟩
    rw[HBN.out,HNX.out]
    exact hr3
theorem chunk_ext (t:ByteArray) (i:Nat):t.extract (16*i) (16*i+16)=⟨(Ref.chunkL t.data.toList i).toArray⟩:=ba_ext (by rw[sub_list,Nat.add_sub_cancel_left];rfl)
theorem chunk_end (t:ByteArray) (i:Nat) (h:t.size≤16*i+16):t.extract (16*i) t.size=⟨(Ref.chunkL t.data.toList i).toArray⟩:=ba_ext (by
 rw[sub_list]
 show _=(t.data.toList.drop (16*i)).take 16
 rw[List.take_of_length_le (by rw[List.length_drop,ba_len];exact Nat.le_refl _),List.take_of_length_le (by rw[List.length_drop,ba_len];omega)])
theorem chunk_void (t:ByteArray) (i:Nat) (h:t.size≤16*i):(⟨(Ref.chunkL t.data.toList i).toArray⟩:ByteArray)=⟨#[]⟩:=by
 unfold Ref.chunkL
 rw[List.drop_eq_nil_of_le (by rw[ba_len];exact h)]
 rfl
set_option maxHeartbeats 800000 in
theorem chunk_any (t:ByteArray) (i:Nat) (w:World) (ht:t.size≤1099511627776) (hi:i≤1099511627776):
  Calls Tryz.prog 75 #[.string t,.int .i64 (i:Nat)] w fun e w'=>e = .returned (.string ⟨(Ref.chunkL t.data.toList i).toArray⟩)∧w'=w:=by
 have hx1:=chunk_ext t i
 have hx2:=chunk_end t i
 have hx3:=chunk_void t i
 obtain ⟨p,hp⟩:∃ p:Nat,p=16*i:=⟨_,rfl⟩
 rw[←hp] at hx1 hx2 hx3
 have t1:(i:Int)*16=(p:Int):=by omega
 have hpb:p≤17592186044416:=by omega
 obtain ⟨N,hN⟩:∃ N:Nat,t.size=N:=⟨_,rfl⟩
 rw[hN] at hx2 hx3 ht
 by_cases h1:N<p
 ·have j1:(N:Int)<(p:Int):=by omega
  have j2:(N:Int)<(N:Int)+16:=by omega
  have hnn:t.extract N N=⟨#[]⟩:=ba_ext (by rw[sub_list,Nat.sub_self];rfl)
  have HX:=hide (hx3 (by omega))
  rw[HX.out]
  clear hx1 hx2 hx3 HX hp hi
  go_enter Tryz.func75,Tryz.ntmps75
  go_wp2
  go_ret
  first
   | exact ⟨rfl,rfl⟩
   | exact ⟨by rw[hnn],rfl⟩
 ·have j1:¬ (N:Int)<(p:Int):=by omega
  obtain ⟨q,hq⟩:∃ q:Nat,q=p+16:=⟨_,rfl⟩
  have t2:(p:Int)+16=(q:Int):=by omega
  by_cases h2:N<q
  ·have j2:(N:Int)<(q:Int):=by omega
   have j3:(p:Int)≤(N:Int):=by omega
   have HX:=hide (hx2 (by omega))
   clear hx1 hx2 hx3 hp hi hq
   go_enter Tryz.func75,Tryz.ntmps75
   go_wp2
   go_ret
   exact ⟨by rw[←HX.out];rfl,rfl⟩
  ·have j2:¬ (N:Int)<(q:Int):=by omega
   have j3:(p:Int)≤(q:Int):=by omega
   have j4:(q:Int)≤(N:Int):=by omega
   rw[←hq] at hx1
   have HX:=hide hx1
   clear hx1 hx2 hx3 hp hi hq
   go_enter Tryz.func75,Tryz.ntmps75
   go_wp2
   go_ret
   exact ⟨by rw[←HX.out];rfl,rfl⟩
end Go.Proofs.YtoifalcpfnacnaaGreatDoor
