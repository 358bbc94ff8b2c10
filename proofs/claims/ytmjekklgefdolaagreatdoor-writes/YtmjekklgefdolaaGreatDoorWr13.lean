import Derived.Lib.AppendStr
import Derived.Test.YtmjekklgefdolaaGreatDoorWr12
namespace Go.Proofs.YtmjekklgefdolaaGreatDoor
open Go.RowKit
theorem wr_byte (sk:Value) (key:ByteArray) (n:Nat) (chunk:List UInt8) (count:Nat) (fin:Int) (i:Nat) (h:i<chunk.length):(wrCells sk key n chunk count fin)[3+i]? = some (.int .u8 ((chunk[i].toNat:Nat):Int)):=by
 unfold wrCells
 rw[List.append_assoc,List.getElem?_append_right (by simp),List.getElem?_append_left (by simp[u8L];exact h)]
 simp[u8L,h]
theorem wr_count (sk:Value) (key:ByteArray) (n:Nat) (chunk:List UInt8) (count:Nat) (fin:Int) (h:chunk.length=16):(wrCells sk key n chunk count fin)[19]? = some (.int .i64 (count:Nat)):=by
 unfold wrCells
 rw[List.getElem?_append_right (by simp[u8L,h])]
 simp[u8L,h]
theorem wr_fin (sk:Value) (key:ByteArray) (n:Nat) (chunk:List UInt8) (count:Nat) (fin:Int) (h:chunk.length=16):(wrCells sk key n chunk count fin)[20]? = some (.int .i64 fin):=by
 unfold wrCells
 rw[List.getElem?_append_right (by simp[u8L,h])]
 simp[u8L,h]
theorem wr_len (sk:Value) (key:ByteArray) (n:Nat) (chunk:List UInt8) (count:Nat) (fin:Int) (h:chunk.length=16):(wrCells sk key n chunk count fin).length=21:=by
 unfold wrCells
 simp[u8L,h]
theorem wr_set_count (sk:Value) (key:ByteArray) (n:Nat) (chunk:List UInt8) (count c2:Nat) (fin:Int) (h:chunk.length=16):(wrCells sk key n chunk count fin).set 19 (.int .i64 (c2:Nat))=wrCells sk key n chunk c2 fin:=by
 unfold wrCells
 rw[List.set_append_right _ _ (by simp[u8L,h])]
 simp[u8L,h]
theorem wr_set_n (sk:Value) (key:ByteArray) (n n2:Nat) (chunk:List UInt8) (count:Nat) (fin:Int):(wrCells sk key n chunk count fin).set 2 (.int .u64 (n2:Nat))=wrCells sk key n2 chunk count fin:=rfl
theorem wr_set_byte (sk:Value) (key:ByteArray) (n:Nat) (chunk:List UInt8) (count:Nat) (fin:Int) (i:Nat) (x:UInt8) (h:i<chunk.length):(wrCells sk key n chunk count fin).set (3+i) (.int .u8 ((x.toNat:Nat):Int))=wrCells sk key n (chunk.set i x) count fin:=by
 unfold wrCells
 rw[List.append_assoc,List.set_append_right _ _ (by simp),List.set_append_left _ _ (by simp[u8L];exact h),List.append_assoc]
 congr 2
 simp[u8L,List.map_set]
set_option maxRecDepth 100000 in
set_option maxHeartbeats 1600000 in
theorem text_any (wb:Nat) (sk:Value) (key:ByteArray) (n:Nat) (chunk:List UInt8) (count:Nat) (fin:Int) (w:World) (hB:Blk w wb 201 (wrCells sk key n chunk count fin)) (hc:chunk.length=16) (hn:count≤16):
  Calls Tryz.prog 197 #[.pointer (some ⟨wb,0,none⟩)] w fun e w'=>e = .returned (.string ⟨(chunk.take count).toArray⟩)∧Below w.heap.size w w':=by
 have hwl:=hB.lt
 have HB:=hide hB
 have HC:=hide hc
 clear hB hc
 go_enter Tryz.func197,Tryz.ntmps197
 go_wp2
 go_loopw [3,4] (fun v vi wr=>∃ i:Nat,i≤count∧vi = .int .i64 (i:Nat)∧Row wr w.heap.size 5 1 v i (u8L (chunk.take i))∧Below w.heap.size w wr) (fun _ i _=>count-(intOf i).toNat)
 case atStart=>exact ⟨0,Nat.zero_le _,rfl,by simpa [u8L] using Row.empty _ _ (heap_alloc_new _ _) _ (Nat.le_refl _),(Below.refl _ _).alloc (Nat.le_refl _) _⟩
 case round=>
  obtain ⟨i,hi,rfl,hr,hbe⟩:=hrel
  have hsz:=hbe.size
  have hBr:=HB.out.below hbe hwl
  have c19:=hBr.cell (wr_count sk key n chunk count fin HC.out)
  by_cases hlt:i<count
  ·have hil:i<chunk.length:=by rw[HC.out];omega
   have cb:=hBr.cell (wr_byte sk key n chunk count fin i hil)
   have hnx:chunk.take (i+1)=chunk.take i++[chunk[i]]:=List.take_succ_eq_append_getElem hil
   generalize chunk[i]=x at *
   have HNX:=hide hnx
   have HR:=hide hr
   have HBE:=hide hbe
   have HLT:=hide hlt
   have j1:(i:Int)<(count:Int):=by omega
   have j2:(i:Int)<16:=by omega
   obtain ⟨ao,cap,rfl,hd1,hd2⟩:=Row.anyN hr
   unfold maxLen at hd2
   clear hr hbe hBr hnx hil
   go_wp2_with (at_builtin;refine wpList_append_u8 rfl (.tmp 18) (.tmp 25) rfl w.heap.size _ i _ rfl (HR.out.alloc _) ⟨wr.heap.size,0,none⟩ 1 1 [x] rfl rfl (one_news rfl (World.cell?_alloc_at _ _ _ _ rfl)) ?_ ?_ ?_;omega;(simp;omega);intro v1 w1 hr1 hg1 hat1)
   go_roundw
   case rel=>
    have:=HLT.out
    refine ⟨i+1,by omega,by go_num,?_,Below.grown (HBE.out.alloc hsz _) hg1 (by simp;omega) (fun k hk=>(HR.out.lt k hk).1)⟩
    rw[HNX.out]
    exact hr1
   case measure=>have:=HLT.out;simp[intOf];omega
  ·obtain rfl:i=count:=by omega
   have j1:¬ (i:Int)<(i:Int):=by omega
   have HBE:=hide hbe
   obtain ⟨ao2,cap2,rfl,hd1,hd2,hcv⟩:=Row.strAny hr
   unfold maxLen at hd2
   clear hr hbe hBr hlt hi
   go_wp2
   go_ret
   exact ⟨rfl,HBE.out⟩
theorem infoWr:(Tryz.prog.info? 201).map (·.size)=some 21:=by kernel_rfl
theorem shut_one (e:Int):((wrCells (.pointer none) ⟨#[]⟩ 0 (nought 16) 0 e).toArray).all (·.oneCell')=true:=by simp[wrCells,u8L,nought,Value.oneCell']
set_option maxRecDepth 100000 in
set_option maxHeartbeats 1600000 in
theorem finish_any (wb:Nat) (old:List Value) (e:Int) (w:World) (hB:Blk w wb 201 old) (hl:old.length=21):
  Calls Tryz.prog 152 #[.pointer (some ⟨wb,0,none⟩),.int .i64 e] w fun _e w'=>(∃ v,_e = .returned v)∧Blk w' wb 201 (wrCells (.pointer none) ⟨#[]⟩ 0 (nought 16) 0 e)∧w.grownBy w' (some wb):=by
 have HB:=hide hB
 have HL:=hide hl
 clear hB hl
 go_enter Tryz.func152,Tryz.ntmps152
 go_wp2_with (refine wpList_store_blk rfl 201 (.tmp 7) (.tmp 6) rfl wb 0 (wrCells (.pointer none) ⟨#[]⟩ 0 (nought 16) 0 e).toArray rfl rfl infoWr (shut_one e) 201 old HB.out (by rw[HL.out];exact Nat.le_refl 21) ?_;intro wz hBz hGz)
 refine bodyPost_end (v:=.tuple #[]) (by simp[results,Tryz.results152]) rfl ?_
 refine ⟨⟨_,rfl⟩,?_,hGz⟩
 rw[laidOver_all _ _ (by rw[HL.out];rfl)] at hBz
 exact hBz
def Sent (wb sk g:Nat) (key:ByteArray) (n:Nat) (chunk:List UInt8) (k:Snk) (bx:ByteArray) (w:World) (e:Ending) (w':World):Prop:=
 e = .returned (.int .i64 (k.err bx))∧Blk w' sk 173 ((k.put bx).cells g) ∧
  Blk w' wb 201 (if k.ok bx then wrCells (.pointer (some ⟨sk,0,none⟩)) key (n+1) chunk 0 0 else wrCells (.pointer none) ⟨#[]⟩ 0 (nought 16) 0 16)∧Chg (fun x=>x=wb∨x=sk) w w'
set_option maxRecDepth 100000 in
set_option maxHeartbeats 3200000 in
theorem send_any (wb sk g:Nat) (key:ByteArray) (n:Nat) (chunk:List UInt8) (count:Nat) (last:Bool) (k:Snk) (w:World) (hB:Blk w wb 201 (wrCells (.pointer (some ⟨sk,0,none⟩)) key n chunk count 0)) (hkey:key.size=32) (hn:n+1≤1125899906842624) (hc:chunk.length=16) (hcn:count≤16)
  (hk:Blk w sk 173 (k.cells g)) (hg:Blk w g 3 (intV k.plan)) (hwk:wb≠sk) (hks:k.got.size+3000<1125899906842624) (hkp:k.pos+10<1125899906842624):
  Calls Tryz.prog 149 #[.pointer (some ⟨wb,0,none⟩),.bool last] w (Sent wb sk g key n chunk k ⟨(Ref.box key.data.toList n last (chunk.take count)).toArray⟩ w):=by
 have HTX:=hide (text_any wb _ key n chunk count 0 w hB hc hcn)
 have hbz:(⟨(Ref.box key.data.toList n last (chunk.take count)).toArray⟩:ByteArray).size≤1000:=by
  rw[ba_size]
  unfold Ref.box
  split
  ·rw[Box.sealed_len,List.length_take];omega
  ·exact Nat.zero_le _
 have HSC:=hide (fun w'=>sealChunk_any key n last ⟨(chunk.take count).toArray⟩ w' hkey (by omega) (by rw[ba_size,List.length_take];omega))
 rw[two_toList] at HSC
 have hwl:=hB.lt
 have hkl:=hk.lt
 have HB:=hide hB
 have HK:=hide hk
 have HG:=hide hg
 have HC:=hide hc
 generalize (⟨(Ref.box key.data.toList n last (chunk.take count)).toArray⟩:ByteArray)=BX at *
 generalize (⟨(chunk.take count).toArray⟩:ByteArray)=TX at *
 clear hB hk hg hc
 go_enter Tryz.func149,Tryz.ntmps149
 go_wp2_with fail
 refine HTX.out.mono ?_
 rintro e w1 ⟨rfl,hb1⟩
 have HB1:=hide (HB.out.below hb1 hwl)
 have HK1:=hide (HK.out.below hb1 hkl)
 have HG1:=hide (HG.out.below hb1 HG.out.lt)
 have C1:=hide (Chg.of_below (S:=fun x=>x=wb∨x=sk) hb1)
 have hwl1:wb<w1.heap.size:=HB1.out.lt
 clear HTX hb1 HB HK HG
 have c1:=HB1.out.cell (i:=1) rfl
 have c2:=HB1.out.cell (i:=2) rfl
 go_wp2
 go_region_held3 (fun w'=>w'.cell? ⟨wb,1,none⟩=some (.string key)∧w'.cell? ⟨wb,2,none⟩=some (.int .u64 (n:Nat))) (refine ⟨?_,?_⟩ <;> first | assumption | (exact (hb2.cell hwl1).trans (by assumption))) ((go_at_call 158;refine (HSC.out _).mono ?_;rintro e w2 ⟨rfl,hb2⟩))
 rename_i hH
 clear hH
 have hbd:Below w1.heap.size w1 w2:=(show Below w1.heap.size w1 w1.drew from ⟨rfl,rfl,rfl,Nat.le_refl _,fun _ _=>rfl⟩).trans hb2
 have HB2:=hide (HB1.out.below hbd hwl1)
 have HK2:=hide (HK1.out.below hbd HK1.out.lt)
 have HG2:=hide (HG1.out.below hbd HG1.out.lt)
 have C2:=hide (C1.out.trans (Chg.of_below hbd))
 clear hb2 hbd HB1 HK1 HG1 C1 HSC c1 c2
 have HGV:=hide (give_any sk g k BX w2 HK2.out HG2.out (by omega) (by omega))
 have c0:=HB2.out.cell (i:=0) rfl
 go_wp2_with fail
 refine HGV.out.mono ?_
 rintro e w3 ⟨rfl,hB3,hG3⟩
 have HK3:=hide hB3
 have HB3:=hide (HB2.out.grown hG3 (fun e=>hwk (by injection e)))
 have C3:=hide (C2.out.grew hG3 (.inl (.inr rfl)))
 clear HGV hB3 hG3 HK2 HG2 HB2 C2 c0
 rcases k.err_cases BX with ⟨he,ho⟩ | ⟨he,ho⟩
 ·rw[he]
  have HE:=hide he
  have HO:=hide ho
  clear he ho
  have c2:=HB3.out.cell (i:=2) rfl
  have f3:=HB3.out.frozen
  obtain ⟨n1,hn1⟩:∃ n1:Nat,n1=n+1:=⟨_,rfl⟩
  have t1:((n:Int)+1)%18446744073709551616=(n1:Int):=by omega
  have t2:(n:Int)+1=(n1:Int):=by omega
  have t3:(n1:Int)%18446744073709551616=(n1:Int):=by omega
  have hB4:=(HB3.out.setCell_same 2 (.int .u64 (n1:Nat))).setCell_same 19 (.int .i64 ((0:Nat):Int))
  rw[wr_set_n,wr_set_count _ _ _ _ _ _ _ HC.out] at hB4
  have hG4:=(((World.grownBy.refl w3 (some wb)).setCell 2 (.int .u64 (n1:Nat))).setCell 19 (.int .i64 ((0:Nat):Int)))
  have HB4:=hide hB4
  have HK4:=hide (HK3.out.grown hG4 (fun e=>hwk (by injection e with e;exact e.symm)))
  have C4:=hide (C3.out.grew hG4 (.inl (.inl rfl)))
  have HN1:=hide hn1
  have c19:=(HB3.out.setCell_same 2 (.int .u64 (n1:Nat))).cell (i:=19) (by rw[wr_set_n];exact wr_count _ _ _ _ _ _ HC.out)
  clear hB4 hG4 hn1 HK3 C3 HB3
  go_wp2
  go_ret
  exact ⟨by rw[HE.out];rfl,HK4.out,by rw[HO.out,if_pos rfl,←HN1.out];exact HB4.out,C4.out⟩
 ·rw[he]
  have HE:=hide he
  have HO:=hide ho
  clear he ho
  have HF:=hide (finish_any wb _ 16 w3 HB3.out (wr_len _ _ _ _ _ _ HC.out))
  go_wp2_with fail
  refine HF.out.mono ?_
  rintro e w4 ⟨⟨v4,rfl⟩,hB4,hG4⟩
  have HB4:=hide hB4
  have HK4:=hide (HK3.out.grown hG4 (fun e=>hwk (by injection e with e;exact e.symm)))
  have C4:=hide (C3.out.grew hG4 (.inl (.inl rfl)))
  clear HF hB4 hG4 HB3 HK3 C3
  go_wp2
  go_ret
  exact ⟨by rw[HE.out];rfl,HK4.out,by rw[HO.out];exact HB4.out,C4.out⟩
namespace Ref
structure Wr where
 n:Nat
 t:List UInt8
 k:Snk
def Wr.box (s:Wr) (key:List UInt8) (last:Bool):ByteArray:=⟨(Ref.box key s.n last s.t).toArray⟩
def Wr.step (s:Wr) (key:List UInt8) (x:UInt8):Option Wr:=
 if s.t.length=16 then (if s.k.ok (s.box key false) then some ⟨s.n+1,[x],s.k.put (s.box key false)⟩ else none) else some ⟨s.n,s.t++[x],s.k⟩
def Wr.at (s:Wr) (key:List UInt8) (p:List UInt8):Nat→Option Wr
 | 0=>some s
 | i+1=>(s.at key p i).bind fun r=>r.step key (p.getD i 0)
theorem box_size (key:List UInt8) (n:Nat) (last:Bool) (t:List UInt8):(box key n last t).length≤t.length+16:=by
 unfold box
 split
 ·rw[Box.sealed_len];exact Nat.le_refl _
 ·exact Nat.zero_le _
structure Wr.Fits (s r:Wr) (i:Nat):Prop where
 n:r.n≤s.n+i
 t:r.t.length≤16
 got:r.k.got.size≤s.k.got.size+32*i
 pos:r.k.pos≤s.k.pos+i
 plan:r.k.plan=s.k.plan
theorem Wr.at_fits (s:Wr) (ht:s.t.length≤16) (key p:List UInt8):∀ (i:Nat) (r:Wr),s.at key p i=some r→s.Fits r i
 | 0,r,h=>by
  have e:s=r:=Option.some.inj h
  subst e
  exact ⟨Nat.le_refl _,ht,Nat.le_refl _,Nat.le_refl _,rfl⟩
 | i+1,r,h=>by
  rw[Wr.at] at h
  cases hq:s.at key p i with
  | none=>rw[hq] at h;cases h
  | some q=>
   rw[hq] at h
   have ih:=Wr.at_fits s ht key p i q hq
   have h':q.step key (p.getD i 0)=some r:=h
   unfold Wr.step at h'
   split at h'
   ·rename_i h16
    split at h'
    ·have e:=Option.some.inj h'
     subst e
     have hz:=box_size key q.n false q.t
     have h1:=q.k.put_size (q.box key false)
     have h2:=q.k.put_pos (q.box key false)
     have h3:(q.box key false).size=(Ref.box key q.n false q.t).length:=ba_size _
     have g1:=ih.n
     have g2:=ih.got
     have g3:=ih.pos
     exact ⟨by show q.n+1≤_;omega,by show 1≤16;decide,by show (q.k.put _).got.size≤_;omega,by show (q.k.put _).pos≤_;omega,ih.plan⟩
    ·cases h'
   ·rename_i h16
    have e:=Option.some.inj h'
    subst e
    have g1:=ih.n
    have g2:=ih.got
    have g3:=ih.pos
    have g4:=ih.t
    exact ⟨by show q.n≤_;omega,by show (q.t++_).length≤16;rw[List.length_append];simp;omega,by show q.k.got.size≤_;omega,by show q.k.pos≤_;omega,ih.plan⟩
end Ref
structure WRep (wb sk g:Nat) (key:ByteArray) (s:Ref.Wr) (w:World):Prop where
 wr:∃ chunk:List UInt8,chunk.length=16∧chunk.take s.t.length=s.t∧Blk w wb 201 (wrCells (.pointer (some ⟨sk,0,none⟩)) key s.n chunk s.t.length 0)
 t16:s.t.length≤16
 sn:Blk w sk 173 (s.k.cells g)
 pl:Blk w g 3 (intV s.k.plan)
def WEnd (wb:Nat) (fin:Int) (w:World):Prop:=Blk w wb 201 (wrCells (.pointer none) ⟨#[]⟩ 0 (nought 16) 0 fin)
theorem chunk_put (chunk t:List UInt8) (x:UInt8) (h:chunk.take t.length=t) (hl:t.length<chunk.length):(chunk.set t.length x).take (t.length+1)=t++[x]:=by
 rw[List.take_succ_eq_append_getElem (by simpa using hl),List.getElem_set_self,List.take_set_of_le (Nat.le_refl _),h]
def WroteP (wb sk g:Nat) (key:ByteArray) (s:Ref.Wr) (p:ByteArray) (w:World) (e:Ending) (w':World):Prop:=
 (∃ r,s.at key.data.toList p.data.toList p.size=some r∧e = .returned (.tuple #[.int .i64 (p.size:Nat),.int .i64 0])∧WRep wb sk g key r w'∧Chg (fun x=>x=wb∨x=sk) w w') ∨
 (∃ i r,i<p.size∧s.at key.data.toList p.data.toList i=some r∧r.t.length=16∧r.k.ok (r.box key.data.toList false)=false∧e = .returned (.tuple #[.int .i64 (i:Nat),.int .i64 16])∧WEnd wb 16 w'∧Blk w' sk 173 ((r.k.put (r.box key.data.toList false)).cells g)∧Chg (fun x=>x=wb∨x=sk) w w')
set_option maxRecDepth 100000 in
set_option maxHeartbeats 3200000 in
theorem write_any (wb sk g:Nat) (key:ByteArray) (s:Ref.Wr) (p:ByteArray) (w:World) (hR:WRep wb sk g key s w) (hkey:key.size=32) (hwk:wb≠sk) (hwg:wb≠g) (hgk:g≠sk)
  (hn:s.n+p.size+10≤1125899906842624) (hgot:s.k.got.size+32*p.size+4000<1125899906842624) (hpos:s.k.pos+p.size+20<1125899906842624):
  Calls Tryz.prog 80 #[.pointer (some ⟨wb,0,none⟩),.string p] w (WroteP wb sk g key s p w):=by
 have HF:=hide (Ref.Wr.at_fits s hR.t16 key.data.toList p.data.toList)
 have HR0:=hide hR
 obtain ⟨ch0,hcl0,_,hB0⟩:=hR.wr
 have c20:=hB0.cell (wr_fin _ _ _ _ _ _ hcl0)
 clear hR hB0 hcl0
 go_enter Tryz.func80,Tryz.ntmps80
 go_wp2
 clear c20
 go_loopw [6] (fun vi wr=>∃ (i:Nat) (r:Ref.Wr),i≤p.size∧vi = .int .i64 (i:Nat)∧s.at key.data.toList p.data.toList i=some r∧WRep wb sk g key r wr∧Chg (fun x=>x=wb∨x=sk) w wr) (fun i _=>p.size-(intOf i).toNat)
 case atStart=>exact ⟨0,s,Nat.zero_le _,rfl,rfl,HR0.out,Chg.refl _ _⟩
 case round=>
  clear HR0
  obtain ⟨i,r,hi,rfl,hat,hR,hC⟩:=hrel
  have hfit:=HF.out i r hat
  have HAT:=hide hat
  have HC:=hide hC
  have HR:=hide hR
  clear hat hC
  obtain ⟨ch,hcl,htk,hB⟩:=hR.wr
  have hk:=hR.sn
  have hg:=hR.pl
  have ht16:=hR.t16
  have f1:=hfit.n
  have f2:=hfit.got
  have f3:=hfit.pos
  have hwl:=hB.lt
  clear hR hfit
  by_cases hlt:i<p.size
  ·have ji:(i:Int)<(p.size:Int):=by omega
   have c19:=hB.cell (wr_count _ _ _ _ _ _ hcl)
   have hil:i<p.data.toList.length:=by rw[ba_len];exact hlt
   have hpx:p.data.toList.getD i 0=p[i]'hlt:=by rw[byte_at p i hlt]
   have hnx:s.at key.data.toList p.data.toList (i+1)=r.step key.data.toList (p[i]'hlt):=by rw[Ref.Wr.at,HAT.out,←hpx];rfl
   have HNX:=hide hnx
   have HLT:=hide hlt
   by_cases h16:r.t.length=16
   ·have HSD:=hide (send_any wb sk g key r.n ch r.t.length false r.k _ hB hkey (by omega) hcl ht16 hk hg hwk (by omega) (by omega))
    rw[htk] at HSD
    have hbx:(⟨(Ref.box key.data.toList r.n false r.t).toArray⟩:ByteArray)=r.box key.data.toList false:=rfl
    rw[hbx] at HSD
    have j16:(16:Int)≤(r.t.length:Int):=by omega
    have H16:=hide h16
    have HCL:=hide hcl
    clear hB hk htk hcl hpx hnx h16 hbx hil
    go_wp2_with fail
    refine HSD.out.mono ?_
    rintro e w2 ⟨rfl,hK2,hW2,hC2⟩
    have HG2:=hide (hC2.blk hg (by rintro (e | e);exact hwg e.symm;exact hgk e))
    have HK2:=hide hK2
    have HC2:=hide (HC.out.trans hC2)
    clear HSD hK2 hC2 hg HR c19
    rcases r.k.err_cases (r.box key.data.toList false) with ⟨he,ho⟩ | ⟨he,ho⟩
    ·rw[ho,if_pos rfl] at hW2
     rw[he]
     have hst:r.step key.data.toList (p[i]'hlt)=some ⟨r.n+1,[p[i]'hlt],r.k.put (r.box key.data.toList false)⟩:=by unfold Ref.Wr.step;rw[if_pos H16.out,ho];rfl
     have HST:=hide (HNX.out.trans hst)
     have d19:=hW2.cell (wr_count _ _ _ _ _ _ HCL.out)
     have d3:=hW2.cell (wr_byte _ _ _ _ _ _ 0 (by rw[HCL.out];decide))
     have df:=hW2.frozen
     have hb3:=hW2.setCell_same (3+0) (.int .u8 (((p[i]'hlt).toNat:Nat):Int))
     rw[wr_set_byte _ _ _ _ _ _ 0 _ (by rw[HCL.out];decide)] at hb3
     have e19:=hb3.cell (wr_count _ _ _ _ _ _ (by rw[List.length_set];exact HCL.out))
     have hb4:=hb3.setCell_same 19 (.int .i64 ((1:Nat):Int))
     rw[wr_set_count _ _ _ _ _ _ _ (by rw[List.length_set];exact HCL.out)] at hb4
     have hG3:=(World.grownBy.refl w2 (some wb)).setCell (3+0) (.int .u8 (((p[i]'hlt).toNat:Nat):Int))
     have hG4:w2.grownBy (((w2.setCell ⟨wb,3,none⟩ (.int .u8 (((p[i]'hlt).toNat:Nat):Int))).setCell ⟨wb,19,none⟩ (.int .i64 ((1:Nat):Int))).drew) (some wb):=(hG3.setCell 19 (.int .i64 ((1:Nat):Int))).drewN 1
     have HREP:=hide (show WRep wb sk g key ⟨r.n+1,[p[i]'hlt],r.k.put (r.box key.data.toList false)⟩ (((w2.setCell ⟨wb,3,none⟩ (.int .u8 (((p[i]'hlt).toNat:Nat):Int))).setCell ⟨wb,19,none⟩ (.int .i64 ((1:Nat):Int))).drew) from
      ⟨⟨ch.set 0 (p[i]'hlt),by rw[List.length_set];exact HCL.out,chunk_put ch [] (p[i]'hlt) rfl (by rw[HCL.out];decide),hb4⟩,by show 1≤16;decide,HK2.out.grown hG4 (fun e=>hwk (by injection e with e;exact e.symm)),HG2.out.grown hG4 (fun e=>hwg (by injection e with e;exact e.symm))⟩)
     have HCH:=hide (HC2.out.grew hG4 (.inl (.inl rfl)))
     clear he ho hst hW2 hb3 hb4 hG3 hG4
     go_wp2
     go_region
     go_wp2
     go_roundw
     case rel=>
      have:=HLT.out
      exact ⟨i+1,_,by omega,by go_num,HST.out,HREP.out,HCH.out⟩
     case measure=>have:=HLT.out;simp[intOf];omega
    ·rw[ho] at hW2
     rw[he]
     have HO:=hide ho
     have HW2:=hide hW2
     clear he ho hW2
     go_wp2
     refine bodyPost_ret (results_tmp2 rfl _ _ _) rfl ?_
     exact .inr ⟨i,r,HLT.out,HAT.out,H16.out,HO.out,rfl,HW2.out,HK2.out,HC2.out⟩
   ·have hst:r.step key.data.toList (p[i]'hlt)=some ⟨r.n,r.t++[p[i]'hlt],r.k⟩:=by unfold Ref.Wr.step;rw[if_neg h16]
    have HST:=hide (HNX.out.trans hst)
    have j16:¬ (16:Int)≤(r.t.length:Int):=by omega
    have hclt:r.t.length<ch.length:=by rw[hcl];omega
    have d3:=hB.cell (wr_byte _ _ _ _ _ _ r.t.length hclt)
    have df:=hB.frozen
    have hb3:=hB.setCell_same (3+r.t.length) (.int .u8 (((p[i]'hlt).toNat:Nat):Int))
    rw[wr_set_byte _ _ _ _ _ _ r.t.length _ hclt] at hb3
    have e19:=hb3.cell (wr_count _ _ _ _ _ _ (by rw[List.length_set];exact hcl))
    have hb4:=hb3.setCell_same 19 (.int .i64 ((r.t.length+1:Nat):Int))
    rw[wr_set_count _ _ _ _ _ _ _ (by rw[List.length_set];exact hcl)] at hb4
    have hG3:=(World.grownBy.refl wr (some wb)).setCell (3+r.t.length) (.int .u8 (((p[i]'hlt).toNat:Nat):Int))
    have hG4:wr.grownBy (((wr.setCell ⟨wb,3+r.t.length,none⟩ (.int .u8 (((p[i]'hlt).toNat:Nat):Int))).setCell ⟨wb,19,none⟩ (.int .i64 ((r.t.length+1:Nat):Int))).drew) (some wb):=(hG3.setCell 19 (.int .i64 ((r.t.length+1:Nat):Int))).drewN 1
    have hlen2:(r.t++[p[i]'hlt]).length=r.t.length+1:=by rw[List.length_append];rfl
    have HREP:=hide (show WRep wb sk g key ⟨r.n,r.t++[p[i]'hlt],r.k⟩ (((wr.setCell ⟨wb,3+r.t.length,none⟩ (.int .u8 (((p[i]'hlt).toNat:Nat):Int))).setCell ⟨wb,19,none⟩ (.int .i64 ((r.t.length+1:Nat):Int))).drew) from
     ⟨⟨ch.set r.t.length (p[i]'hlt),by rw[List.length_set];exact hcl,by show (ch.set _ _).take (r.t++[_]).length=_;rw[hlen2];exact chunk_put ch r.t (p[i]'hlt) htk hclt,by show Blk _ _ _ (wrCells _ _ _ _ (r.t++[_]).length _);rw[hlen2];exact hb4⟩,by show (r.t++[_]).length≤16;rw[hlen2];omega,hk.grown hG4 (fun e=>hwk (by injection e with e;exact e.symm)),hg.grown hG4 (fun e=>hwg (by injection e with e;exact e.symm))⟩)
    have HCH:=hide (HC.out.grew hG4 (.inl (.inl rfl)))
    have jc:(r.t.length:Int)<16:=by omega
    generalize ch[r.t.length]=y at *
    obtain ⟨c,hc⟩:∃ c,r.t.length=c:=⟨_,rfl⟩
    rw[hc] at c19 d3 e19 HREP HCH jc j16
    clear hst hb3 hb4 hG3 hG4 hB hk hg htk hcl hclt h16 hlen2 hc hpx hnx hil
    go_wp2
    go_region
    go_wp2
    go_roundw
    case rel=>
     have:=HLT.out
     exact ⟨i+1,_,by omega,by go_num,HST.out,HREP.out,HCH.out⟩
    case measure=>have:=HLT.out;simp[intOf];omega
  ·obtain rfl:i=p.size:=by omega
   have ji:¬ (p.size:Int)<(p.size:Int):=by omega
   clear hB hk hg htk hcl
   go_wp2
   refine bodyPost_ret (results_tmp2 rfl _ _ _) rfl ?_
   exact .inl ⟨r,HAT.out,rfl,HR.out,HC.out⟩
def ClosedP (wb sk g:Nat) (key:ByteArray) (s:Ref.Wr) (w:World) (e:Ending) (w':World):Prop:=
 e = .returned (.int .i64 (s.k.err (s.box key.data.toList true)))∧WEnd wb (if s.k.ok (s.box key.data.toList true) then 14 else 16) w'∧Blk w' sk 173 ((s.k.put (s.box key.data.toList true)).cells g)∧Chg (fun x=>x=wb∨x=sk) w w'
set_option maxRecDepth 100000 in
set_option maxHeartbeats 1600000 in
theorem close_any (wb sk g:Nat) (key:ByteArray) (s:Ref.Wr) (w:World) (hR:WRep wb sk g key s w) (hkey:key.size=32) (hwk:wb≠sk)
  (hn:s.n+10≤1125899906842624) (hgot:s.k.got.size+4000<1125899906842624) (hpos:s.k.pos+20<1125899906842624):
  Calls Tryz.prog 82 #[.pointer (some ⟨wb,0,none⟩)] w (ClosedP wb sk g key s w):=by
 obtain ⟨ch,hcl,htk,hB⟩:=hR.wr
 have c20:=hB.cell (wr_fin _ _ _ _ _ _ hcl)
 have HSD:=hide (send_any wb sk g key s.n ch s.t.length true s.k w hB hkey (by omega) hcl hR.t16 hR.sn hR.pl hwk (by omega) (by omega))
 rw[htk] at HSD
 have hbx:(⟨(Ref.box key.data.toList s.n true s.t).toArray⟩:ByteArray)=s.box key.data.toList true:=rfl
 rw[hbx] at HSD
 have HCL:=hide hcl
 clear hR hB hcl htk hbx
 go_enter Tryz.func82,Tryz.ntmps82
 go_wp2_with fail
 refine HSD.out.mono ?_
 rintro e w2 ⟨rfl,hK2,hW2,hC2⟩
 have HK2:=hide hK2
 have HC2:=hide hC2
 clear HSD hK2 hC2 c20
 rcases s.k.err_cases (s.box key.data.toList true) with ⟨he,ho⟩ | ⟨he,ho⟩
 ·rw[ho,if_pos rfl] at hW2
  rw[he]
  have HE:=hide he
  have HO:=hide ho
  have HF:=hide (finish_any wb _ 14 w2 hW2 (wr_len _ _ _ _ _ _ HCL.out))
  clear he ho hW2
  go_wp2_with fail
  refine HF.out.mono ?_
  rintro e w3 ⟨⟨v3,rfl⟩,hB3,hG3⟩
  have HB3:=hide hB3
  have HK3:=hide (HK2.out.grown hG3 (fun e=>hwk (by injection e with e;exact e.symm)))
  have HC3:=hide (HC2.out.grew hG3 (.inl (.inl rfl)))
  clear HF hB3 hG3 HK2 HC2
  go_wp2
  go_ret
  exact ⟨by rw[HE.out];rfl,by rw[HO.out,if_pos rfl];exact HB3.out,HK3.out,HC3.out⟩
 ·rw[ho] at hW2
  rw[he]
  have HE:=hide he
  have HO:=hide ho
  have HW2:=hide hW2
  clear he ho hW2
  go_wp2
  go_ret
  exact ⟨by rw[HE.out];rfl,by rw[HO.out];exact HW2.out,HK2.out,HC2.out⟩
theorem strCells_eq (s:ByteArray):Lib.strCells s=u8L s.data.toList:=rfl
theorem run_append_rowS {w:World} {base:Nat} {n:Nat} {xs:List Value} (ty:TypeId) (g cap:Nat) (hown:Row w base 5 1 (.slice (some ⟨g,0,none⟩) n cap) n xs) (s:ByteArray) (h63:n+s.size≤140737488355328) (hbase:base≤w.heap.size):
  ∃ g' cap' w',(Builtin.append_ #[62,9] ty #[.slice (some ⟨g,0,none⟩) n cap,.string s]).run Tryz.prog w = .ok (.slice (some ⟨g',0,none⟩) (n+s.size) cap') w'∧Row w' base 5 1 (.slice (some ⟨g',0,none⟩) (n+s.size) cap') (n+s.size) (xs++u8L s.data.toList)∧w.grownBy w' (some g):=by
 obtain ⟨i0,hi,hz0,hz1,hz2⟩:=info_parts infoU8
 have hxl:xs.length=n:=by simpa using hown.1
 have hsl:(u8L s.data.toList).length=s.size:=by rw[←strCells_eq];exact Lib.strCells_length s
 have hlen:(xs++u8L s.data.toList).length=(n+s.size)*1:=by rw[List.length_append,hxl,hsl,Nat.mul_one]
 rcases hown.2 with ⟨h0,_⟩ | ⟨g2,cap2,cur,hv,hb,hg,hc,hm,hcl,htk⟩
 ·cases h0
 ·cases hv
  rw[Nat.mul_one] at hcl htk
  by_cases hroom:n+s.size≤cap
  ·have hf:=Lib.run_firstCells_string (P:=Tryz.prog) w 1 s
   have hst:=run_storeCells_cells (P:=Tryz.prog) g n (u8L s.data.toList) 0 w
    (fun j hj=>by rw[hg.cell (i:=n+0+j) (List.getElem?_eq_getElem (by omega))];rfl)
    (fun j hj=>hg.frozen (by omega)) (u8L_one _)
   simp only[Nat.add_zero] at hst
   have hr:(Builtin.append_ #[62,9] ty #[.slice (some ⟨g,0,none⟩) n cap,.string s]).run Tryz.prog w = .ok (.slice (some ⟨g,0,none⟩) (n+s.size) cap) (w.setCells g n (u8L s.data.toList)):=by
    rw[strCells_eq] at hf
    simp[Builtin.append_,run_underlying Tryz.underlying62,run_underlying Tryz.underlying9,sizeOf,typeInfo,hi,hz1,Builtin.lenOf,hroom,hf,Addr.add_lit,hst]
   refine ⟨g,cap,_,hr,⟨hlen,.inr ⟨g,cap,_,rfl,hb,BlkM.setCells_same (u8L s.data.toList) cur n w hg (by omega),hroom,hm,?_,?_⟩⟩,World.grownBy.setCells _ _ _ (World.grownBy.refl w _)⟩
   ·unfold laidOver;simp only[List.length_append,List.length_take,List.length_drop];omega
   ·unfold laidOver
    rw[htk,Nat.mul_one,List.take_append_of_le_length (by rw[hlen];omega),List.take_of_length_le (by rw[hlen];omega)]
  ·have hge:=grownCap_ge w (n+s.size) cap 5
   have hcm:grownCap w (n+s.size) cap 5≤maxLen:=grownCap_le_maxLen w (n+s.size) cap 5 (by unfold maxLen;omega)
   have hr:=Lib.run_append_grow_string (P:=Tryz.prog) w 62 9 ty 5 i0 (.int .u8 0) Tryz.underlying62 Tryz.underlying9 hi hz0 ⟨g,0,none⟩ n cap xs (by rw[hz1];omega) (fun j u hu=>by
     rw[Addr.add_mid,Nat.zero_add]
     refine hg.cell ?_
     rw[←htk,List.getElem?_take] at hu
     split at hu
     ·exact hu
     ·cases hu) s (by omega) (by omega) (growslice_fits (by omega) (by rw[hz2];omega))
   rw[strCells_eq] at hr
   refine ⟨w.heap.size,_,_,hr,⟨hlen,.inr ⟨w.heap.size,_,(xs++u8L s.data.toList++(Builtin.zeroCells (Value.int .u8 0).cells (grownCap w (n+s.size) cap 5-(n+s.size))).toList),rfl,hbase,?_,hge,hcm,?_,?_⟩⟩,⟨rfl,rfl,rfl,by simp,fun k hk _=>heap_alloc_old w.drew _ hk⟩⟩
   ·refine Blk.marked ?_
    have h1:=heap_alloc_new w.drew (.cells (xs.toArray++(u8L s.data.toList).toArray++Builtin.zeroCells (Value.int .u8 0).cells (grownCap w (n+s.size) cap 5-(n+s.size))) 5)
    have hA:xs.toArray++(u8L s.data.toList).toArray++Builtin.zeroCells (Value.int .u8 0).cells (grownCap w (n+s.size) cap 5-(n+s.size))=(xs++u8L s.data.toList++(Builtin.zeroCells (Value.int .u8 0).cells (grownCap w (n+s.size) cap 5-(n+s.size))).toList).toArray:=by
     apply Array.ext'
     simp only[Array.toList_append,List.append_assoc]
    rw[hA] at h1
    generalize (xs++u8L s.data.toList++(Builtin.zeroCells (Value.int .u8 0).cells (grownCap w (n+s.size) cap 5-(n+s.size))).toList)=LL at *
    rw[hA]
    exact h1
   ·have hz3:(Value.int IntKind.u8 0).cells.size=1:=rfl
    simp only[List.length_append,Array.length_toList,size_zeroCells,hz3,hxl,hsl]
    omega
   ·rw[Nat.mul_one,List.take_append_of_le_length (by rw[hlen];omega),List.take_of_length_le (by rw[hlen];omega)]
theorem wpList_append_text {ops:Array Oper} {rest:List Oper} {o:Oper} {a:Act} {w:World} {Q:Exit→Act→World→Prop} (hgd:o.guard=none) (x y:Operand)
  (ho:o.op = .call { callee:=.builtin .append,args:=#[x,y],argTypes:=#[62,9] })
  (base g cap n:Nat) (xs:List UInt8) (hx:a.eval x = .slice (some ⟨g,0,none⟩) n cap) (hown:Row w base 5 1 (.slice (some ⟨g,0,none⟩) n cap) n (u8L xs)) (s:ByteArray) (hy:a.eval y = .string s) (hn:n+s.size≤140737488355328) (hbase:base≤w.heap.size)
  (h:∀ g' cap' w',Row w' base 5 1 (.slice (some ⟨g',0,none⟩) (n+s.size) cap') (n+s.size) (u8L (xs++s.data.toList))→w.grownBy w' (some g)→wpList Tryz.prog ops Q rest (a.put o.dst (.slice (some ⟨g',0,none⟩) (n+s.size) cap')) w'):wpList Tryz.prog ops Q (o::rest) a w:=by
 refine wpList_plain hgd fun K hK=>?_
 obtain ⟨g',cap',w',hr,h2,h3⟩:=run_append_rowS o.type g cap hown s hn hbase
 unfold Oper.wp execOp
 simp only[ho,resolve,invoke,builtin,Sem.run_bind,Sem.run_pure,Result.andThen_ok,List.map_toArray,List.map_cons,List.map_nil,hx,hy,hr]
 exact hK _ _ (h g' cap' w' (by rw[u8L_append];exact h2) h3)
namespace Ref
def encB (key:List UInt8) (text:List UInt8):Nat→List UInt8
 | 0=>[]
 | k+1=>encB key text k++box key k false ((text.drop (16*k)).take 16)
def full (n:Nat):Nat:=(n-1)/16
def encF (key:List UInt8) (text:List UInt8):List UInt8:=encB key text (full text.length)++box key (full text.length) true (text.drop (16*full text.length))
theorem encB_len (key text:List UInt8):∀ k,(encB key text k).length≤32*k
 | 0=>Nat.le_refl _
 | k+1=>by
  have h:=encB_len key text k
  have h2:=box_size key k false ((text.drop (16*k)).take 16)
  rw[encB,List.length_append]
  have h3:((text.drop (16*k)).take 16).length≤16:=by rw[List.length_take];omega
  omega
def file (l:List ByteArray) (s:ByteArray) (p:Nat) (text:List UInt8):List UInt8:=(head l s p).data.toList++(pdraw l s p).data.toList++encF (pkey l s p).data.toList text
end Ref
def EncP (l:List ByteArray) (b:Nat) (s:ByteArray) (p:Nat) (text:ByteArray) (w:World) (e:Ending) (w':World):Prop:=
 e = .returned (.tuple #[.string (if Ref.beginE l s p=0 then ⟨(Ref.file l s p text.data.toList).toArray⟩ else ⟨#[]⟩),.int .i64 (Ref.beginE l s p)])∧Blk w' b 171 (springCells s (Ref.beginP l s p))∧w.grownBy w' (some b)
theorem Ref.pkey_size (l:List ByteArray) (s:ByteArray) (p:Nat):(Ref.pkey l s p).size=32:=by unfold Ref.pkey;rw[ba_size,Ref.keyL_len]
theorem enc_nums (text:ByteArray) (k:Nat) (h:16*(k+1)<text.size):
  ((text.extract (16*k) text.size).extract 0 16).data.toList=(text.data.toList.drop (16*k)).take 16∧(text.extract (16*k) text.size).extract 16 (text.extract (16*k) text.size).size=text.extract (16*(k+1)) text.size:=by
 have hxs:(text.extract (16*k) text.size).size=text.size-16*k:=by rw[ByteArray.size_extract];omega
 refine ⟨?_,?_⟩
 ·rw[ext_take,sub_list,List.take_take,Nat.min_eq_left (by omega)]
 ·apply ba_ext
  rw[sub_list,hxs,sub_list,sub_list,List.drop_take,List.take_take,List.drop_drop,show 16*k+16=16*(k+1) by omega]
  congr 1
  omega
theorem wpList_bytes {ops:Array Oper} {rest:List Oper} {o:Oper} {a:Act} {w:World} {Q:Exit→Act→World→Prop} (hgd:o.guard=none) (x:Operand) (ho:o.op = .convert 9 62 x) (s:ByteArray) (hx:a.eval x = .string s) (hs:s.size≤1099511627776)
  (h:∀ cap w',cap≤9223372036854775807→s.size≤cap→Row w' w.heap.size 5 1 (.slice (some ⟨w.heap.size,0,none⟩) s.size cap) s.size (u8L s.data.toList)→Below w.heap.size w w'→wpList Tryz.prog ops Q rest (a.put o.dst (.slice (some ⟨w.heap.size,0,none⟩) s.size cap)) w'):wpList Tryz.prog ops Q (o::rest) a w:=by
 have hge:=grownCap_ge w s.size 0 5
 have hle:=grownCap_le_maxLen w s.size 0 5 (by unfold maxLen;omega)
 have hrow:=row_bytes s w _ hge hle
 have hcv:=run_bytes_of_string (P:=Tryz.prog) w 9 62 5 s Tryz.underlying9 Tryz.underlying62 Tryz.underlying5
 refine wpList_plain hgd fun K hK=>?_
 unfold Oper.wp execOp
 simp only[ho,Sem.run_bind,Sem.run_pure,Result.andThen_ok,hx,hcv]
 exact hK _ _ (h _ _ (by unfold maxLen at hle;exact hle) hge hrow ((Below.refl _ _).drew.alloc (Nat.le_refl _) _))
structure ENC (b:Nat) (s:ByteArray) (q:Nat) (w w1:World) (x y z:ByteArray) (wi:World):Prop where
 st:Blk wi w1.heap.size 209 [.string x,.string y,.string z]
 sp:Blk wi b 171 (springCells s q)
 gr:w.grownBy wi (some b)
theorem ENC.after {b:Nat} {s:ByteArray} {q:Nat} {w w1 wi wj:World} {x y z:ByteArray} (h:ENC b s q w w1 x y z wi) (hb:Below wi.heap.size wi wj):ENC b s q w w1 x y z wj:=⟨h.st.below hb h.st.lt,h.sp.below hb h.sp.lt,grown_below h.gr hb⟩
theorem ENC.grew {b:Nat} {s:ByteArray} {q:Nat} {w w1 wi wj:World} {x y z:ByteArray} {g:Nat} (h:ENC b s q w w1 x y z wi) (hg:wi.grownBy wj (some g)) (h1:w1.heap.size<g) (h2:b<g) (h3:w.heap.size≤g):ENC b s q w w1 x y z wj:=
 ⟨h.st.grown hg (fun e=>by injection e with e;omega),h.sp.grown hg (fun e=>by injection e with e;omega),grown_trans h.gr hg (fun k hk=>.inl (by injection hk with hk;omega))⟩
def strLen:Value→Nat
 | .string s=>s.size
 | _=>0
set_option maxRecDepth 100000 in
set_option maxHeartbeats 3200000 in
theorem encrypt_any (v:Value) (l:List ByteArray) (b:Nat) (s:ByteArray) (p:Nat) (text:ByteArray) (w:World) (ht:Tabs w) (hv:Strs w v l) (hvb:∀ g o n c,v = .slice (some ⟨g,o,none⟩) n c→0<l.length→g≠b) (hl:l.length≤1099511627776)
  (hb:Blk w b 171 (springCells s p)) (h2b:2≤b) (hp:p≤s.size) (hs:s.size<1125899906842624) (hx:text.size≤1099511627):
  Calls Tryz.prog 93 #[v,.pointer (some ⟨b,0,none⟩),.string text] w (EncP l b s p text w):=by
 have HBG:=hide (vbegin_any v l b s p w ht hv hvb hl hb h2b hp hs)
 have hbl:=hb.lt
 obtain ⟨ao,cp,rfl⟩:=hv.len
 clear ht hv hvb hb
 go_enter Tryz.func93,Tryz.ntmps93
 go_wp2_with fail
 refine HBG.out.mono ?_
 rintro e w1 ⟨hd,dr,ky,rfl,hval,hB1,hG1⟩
 have HB1:=hide hB1
 have HG1:=hide hG1
 have hsz1:=hG1.size
 clear HBG hB1 hG1
 by_cases hE:Ref.beginE l s p=0
 ·obtain ⟨rfl,rfl,rfl⟩:=hval hE
  obtain ⟨hz1,hz2⟩:=Ref.head_size hE
  have hz3:=Ref.pkey_size l s p
  have HIF:=hide (show (if Ref.beginE l s p=0 then (⟨(Ref.file l s p text.data.toList).toArray⟩:ByteArray) else ⟨#[]⟩)=⟨(Ref.file l s p text.data.toList).toArray⟩ from if_pos hE)
  have HE0:=hide hE
  have HFI:=hide (show Ref.file l s p text.data.toList=(Ref.head l s p).data.toList++(Ref.pdraw l s p).data.toList++Ref.encF (Ref.pkey l s p).data.toList text.data.toList from rfl)
  rw[hE]
  generalize Ref.head l s p=HDR at *
  generalize Ref.pdraw l s p=PDR at *
  generalize Ref.pkey l s p=PKY at *
  clear hval hE
  have hb12:Below w1.heap.size w1 (w1.alloc (.cells #[.string HDR,.string PDR,.string PKY] 209)):=(Below.refl _ _).alloc (Nat.le_refl _) _
  have hB2:Blk (w1.alloc (.cells #[.string HDR,.string PDR,.string PKY] 209)) w1.heap.size 209 [.string HDR,.string PDR,.string PKY]:=Blk.new rfl rfl
  have c0:=hB2.cell (i:=0) rfl
  have c1:=hB2.cell (i:=1) rfl
  have HB2:=hide hB2
  have HS2:=hide (HB1.out.below hb12 HB1.out.lt)
  have HG2:=hide (grown_below HG1.out hb12)
  have u1:¬ (9223372036854775807<HDR.size+PDR.size):=by omega
  have hhs:(HDR++PDR).size=HDR.size+PDR.size:=ba_sz _ _
  have hhl:(HDR++PDR).data.toList=HDR.data.toList++PDR.data.toList:=ba_list _ _
  have HHL:=hide hhl
  have hHPz:(HDR++PDR).size≤2000:=by omega
  clear hhs
  generalize hHP:HDR++PDR=HP at *
  obtain ⟨w2,hw2⟩:∃ x,w1.alloc (.cells #[.string HDR,.string PDR,.string PKY] 209)=x:=⟨_,rfl⟩
  rw[hw2] at HB2 HS2 HG2 c0 c1
  have hsz2:w1.heap.size<w2.heap.size:=HB2.out.lt
  have hlen:text.data.toList.length=text.size:=ba_len text
  have HLEN:=hide hlen
  obtain ⟨M,hM⟩:∃ M,Ref.full text.size=M:=⟨_,rfl⟩
  have hMd:M=(text.size-1)/16:=by rw[←hM];rfl
  have HMD:=hide hMd
  clear hMd
  have HENC:=hide (show Ref.encF PKY.data.toList text.data.toList=Ref.encB PKY.data.toList text.data.toList M++Ref.box PKY.data.toList M true (text.data.toList.drop (16*M)) by unfold Ref.encF;rw[hlen,hM])
  have hx0:text.extract 0 text.size=text:=ba_ext (by rw[ext_take,List.take_of_length_le (by rw[ba_len];exact Nat.le_refl _)])
  have HX0:=hide hx0
  clear hb12 hB2 HB1 HG1 hlen hM hx0 hhl
  go_wp2_with (refine wpList_bytes rfl (.tmp 28) rfl HP rfl (by omega) ?_;intro cap0 w3 hcap0 hcap1 hrow0 hbe0)
  have HE3:=hide (show ENC b s (Ref.beginP l s p) w w1 HDR PDR PKY w3 from ⟨HB2.out.below hbe0 HB2.out.lt,HS2.out.below hbe0 HS2.out.lt,grown_below HG2.out hbe0⟩)
  have HROW:=hide hrow0
  have HSZ3:=hide hbe0.size
  clear c0 c1 hHP hw2 u1 hrow0 hbe0 HB2 HS2 HG2
  go_loopw [2,10,11] (fun vt v vn wr=>∃ (k N g cap:Nat),k≤M∧vt = .string (text.extract (16*k) text.size)∧vn = .int .u64 (k:Nat)∧v = .slice (some ⟨g,0,none⟩) N cap∧N≤HP.size+32*k∧Row wr w2.heap.size 5 1 (.slice (some ⟨g,0,none⟩) N cap) N (u8L (HP.data.toList++Ref.encB PKY.data.toList text.data.toList k))∧ENC b s (Ref.beginP l s p) w w1 HDR PDR PKY wr∧w2.heap.size≤wr.heap.size) (fun vt _ _ _=>strLen vt)
  case atStart=>exact ⟨0,HP.size,_,_,Nat.zero_le _,by rw[HX0.out],rfl,rfl,by omega,by rw[show HP.data.toList++Ref.encB PKY.data.toList text.data.toList 0=HP.data.toList from List.append_nil _];exact HROW.out,HE3.out,HSZ3.out⟩
  case round=>
   clear HROW HE3 HX0 HSZ3 hcap0 hcap1
   obtain ⟨k,N,g,cap,hk,rfl,rfl,rfl,hN,hr,hEN,hsz⟩:=hrel
   have hxs:(text.extract (16*k) text.size).size=text.size-16*k:=by rw[ByteArray.size_extract];omega
   have HEN:=hide hEN
   have HR:=hide hr
   obtain ⟨ao9,cap9,e9,hd1,hd2⟩:=Row.anyN hr
   injection e9 with e9a e9b e9c
   subst e9c
   clear e9a e9b ao9
   unfold maxLen at hd2
   have c2:=hEN.st.cell (i:=2) rfl
   have hstl:=hEN.st.lt
   clear hr hEN
   by_cases hlt:k<M
   ·have hbig:16*(k+1)<text.size:=by have:=HMD.out;omega
    have j1:(16:Int)<((text.extract (16*k) text.size).size:Int):=by omega
    have j2:(16:Int)≤((text.extract (16*k) text.size).size:Int):=by omega
    have j3:16≤(text.extract (16*k) text.size).size:=by omega
    obtain ⟨hch,hnxt⟩:=enc_nums text k hbig
    have HSC:=hide (fun w'=>sealChunk_any PKY k false ((text.extract (16*k) text.size).extract 0 16) w' hz3 (by omega) (by rw[ByteArray.size_extract];omega))
    rw[hch] at HSC
    have hbs:=Ref.box_size PKY.data.toList k false ((text.data.toList.drop (16*k)).take 16)
    have hbt:((text.data.toList.drop (16*k)).take 16).length≤16:=by rw[List.length_take];omega
    have HEB:=hide (show Ref.encB PKY.data.toList text.data.toList (k+1)=Ref.encB PKY.data.toList text.data.toList k++Ref.box PKY.data.toList k false ((text.data.toList.drop (16*k)).take 16) from rfl)
    generalize hBX:Ref.box PKY.data.toList k false ((text.data.toList.drop (16*k)).take 16)=BX at *
    have hbz:(⟨BX.toArray⟩:ByteArray).size=BX.length:=ba_size BX
    have HBZ:=hide hbz
    have hbx2:(⟨BX.toArray⟩:ByteArray).size≤32:=by omega
    have hbl2:(⟨BX.toArray⟩:ByteArray).data.toList=BX:=rfl
    have HBL:=hide hbl2
    generalize (⟨BX.toArray⟩:ByteArray)=BB at *
    have HNXT:=hide hnxt
    have HXS:=hide hxs
    generalize hTX:text.extract (16*k) text.size=TX at *
    have hb0:Below wr.heap.size wr wr.drew:=⟨rfl,rfl,rfl,Nat.le_refl _,fun _ _=>rfl⟩
    have HB0:=hide hb0
    have t1:((k:Int)+1)%18446744073709551616=(k:Int)+1:=by omega
    have t1':(k:Int)+1=((k+1:Nat):Int):=by omega
    have T1:=hide t1'
    clear t1'
    have hN2:N+BB.size≤140737488355328:=by omega
    have HN2:=hide (show N+BB.size≤HP.size+32*(k+1) by omega)
    have HLT:=hide hlt
    clear hch hnxt hbs hbt hbz hbl2 hBX hb0 hxs hlt hbig
    go_wp2
    go_region_held3 (fun w'=>w'.cell? ⟨w1.heap.size,2,none⟩=some (.string PKY)) (first | assumption | (exact (hb2.cell hstl).trans (by assumption))) ((go_at_call 158;refine (HSC.out _).mono ?_;rintro e w4 ⟨rfl,hb2⟩))
    rename_i hH
    clear hH
    have hbd:Below wr.heap.size wr w4:=HB0.out.trans hb2
    have HEN4:=hide (HEN.out.after hbd)
    have HR4:=hide (Row.after HR.out hbd)
    have hsz4:w2.heap.size≤w4.heap.size:=Nat.le_trans hsz hbd.size
    clear hb2 hbd HEN HR HSC HB0 c2
    go_wp2_with (at_builtin;refine wpList_append_text rfl (.tmp 45) (.tmp 46) rfl w2.heap.size g cap N _ rfl HR4.out BB rfl hN2 hsz4 ?_;intro g5 cap5 w5 hr5 hg5)
    have hgg:w2.heap.size≤g:=(HR4.out.lt g rfl).1
    go_roundw
    case rel=>
     have h1:=HLT.out
     refine ⟨k+1,N+BB.size,g5,cap5,by omega,by rw[HNXT.out],by rw[T1.out],rfl,HN2.out,?_,HEN4.out.grew hg5 (by omega) (by omega) (by omega),Nat.le_trans hsz4 hg5.size⟩
     rw[HEB.out,←List.append_assoc,←HBL.out]
     exact hr5
    case measure=>
     have h1:=HXS.out
     have h2:=HLT.out
     have h3:=HMD.out
     simp only[strLen,HNXT.out,ByteArray.size_extract]
     omega
   ·obtain rfl:k=M:=by omega
    have HSC:=hide (fun w'=>sealChunk_any PKY k true (text.extract (16*k) text.size) w' hz3 (by have:=HMD.out;omega) (by rw[ByteArray.size_extract];omega))
    have hch:(text.extract (16*k) text.size).data.toList=text.data.toList.drop (16*k):=by rw[sub_list,List.take_of_length_le (by rw[List.length_drop,HLEN.out];exact Nat.le_refl _)]
    rw[hch] at HSC
    have hbs:=Ref.box_size PKY.data.toList k true (text.data.toList.drop (16*k))
    have hbt:(text.data.toList.drop (16*k)).length≤16:=by rw[List.length_drop,HLEN.out];have:=HMD.out;omega
    have j1:¬ (16:Int)<((text.extract (16*k) text.size).size:Int):=by have:=HMD.out;omega
    generalize hBX:Ref.box PKY.data.toList k true (text.data.toList.drop (16*k))=BX at *
    have hbz:(⟨BX.toArray⟩:ByteArray).size=BX.length:=ba_size BX
    have hbl2:(⟨BX.toArray⟩:ByteArray).data.toList=BX:=rfl
    have HBL:=hide hbl2
    have hN2:N+(⟨BX.toArray⟩:ByteArray).size≤140737488355328:=by have:=HMD.out;omega
    generalize (⟨BX.toArray⟩:ByteArray)=BB at *
    generalize text.extract (16*k) text.size=TX at *
    have HSA:=hide (fun (w':World) (v':Value) (n':Nat) (l':List UInt8) (h:Row w' w2.heap.size 5 1 v' n' (u8L l'))=>Row.strAny h)
    have HFIN:=hide (show Ref.file l s p text.data.toList=HP.data.toList++Ref.encB PKY.data.toList text.data.toList k++BX by rw[HFI.out,HENC.out,HHL.out];simp only[List.append_assoc])
    clear hch hbs hbt hbz hbl2 hBX hxs hlt hk HFI HENC HHL
    go_wp2_with fail
    refine (HSC.out _).mono ?_
    rintro e w4 ⟨rfl,hb2⟩
    have HEN4:=hide (HEN.out.after hb2)
    have HR4:=hide (Row.after HR.out hb2)
    have hsz4:w2.heap.size≤w4.heap.size:=Nat.le_trans hsz hb2.size
    clear hb2 HEN HR HSC c2
    go_wp2_with (at_builtin;refine wpList_append_text rfl (.tmp 63) (.tmp 64) rfl w2.heap.size g cap N _ rfl HR4.out BB rfl hN2 hsz4 ?_;intro g5 cap5 w5 hr5 hg5;rw[HBL.out,←HFIN.out] at hr5;obtain ⟨ao2,cap2,e2,hd3,hd4,hcv⟩:=HSA.out _ _ _ _ hr5;clear e2)
    have hgg:w2.heap.size≤g:=(HR4.out.lt g rfl).1
    refine bodyPost_ret (results_tmp2 rfl _ _ _) rfl ?_
    have HEN5:=HEN4.out.grew hg5 (by omega) (by omega) (by omega)
    exact ⟨by rw[HIF.out,HE0.out];rfl,HEN5.sp,HEN5.gr⟩
 ·have HE:=hide hE
  have zE:(Ref.beginE l s p != 0)=true:=by rw[bne_iff_ne];exact hE
  have hb12:Below w1.heap.size w1 (w1.alloc (.cells #[.string hd,.string dr,.string ky] 209)):=(Below.refl _ _).alloc (Nat.le_refl _) _
  have HS2:=hide (HB1.out.below hb12 HB1.out.lt)
  have HG2:=hide (grown_below HG1.out hb12)
  have HIF:=hide (show (if Ref.beginE l s p=0 then (⟨(Ref.file l s p text.data.toList).toArray⟩:ByteArray) else ⟨#[]⟩)=⟨#[]⟩ from if_neg hE)
  clear hval hE hb12 HB1 HG1
  go_wp2
  refine bodyPost_ret (results_tmp2 rfl _ _ _) rfl ?_
  exact ⟨by rw[HIF.out];rfl,HS2.out,HG2.out⟩
theorem Stays.of_chg {T:Tags} {w w':World} {S:Nat→Prop} {C:Nat × Nat→Prop} (c:Nat × Nat) (h:Chg S w w') (hS:∀ k,k<w.heap.size→S k→C (T k)):Stays T (fresh T w c) w w' C:=
 ⟨h.os,h.tape,h.output,h.size,fun g hg=>fresh_old T w c g hg,fun g hg hn=>h.block g hg (fun e=>hn (hS g hg e))⟩
theorem flat_same {α:Type} (f:α→List Value):∀ (l:List α) (i:Nat) (x y:α),l[i]? = some x→f y=f x→(l.set i y).flatMap f=l.flatMap f
 | [],i,x,y,h,_=>by simp at h
 | a::l,0,x,y,h,e=>by
  obtain rfl:a=x:=by simpa using h
  simp[e]
 | a::l,i+1,x,y,h,e=>by
  have ih:=flat_same f l i x y (by simpa using h) e
  simp[ih]
def SinkR.snk (s:SinkR):Snk:=⟨s.got,s.plan,s.pos.toNat⟩
def SinkR.turn (s:SinkR) (y:Snk):SinkR:={ s with got:=y.got,pos:=(y.pos:Nat) }
theorem SiK.cells {M:Nat} {s:SinkR} (h:SiK M s) (g:Nat):s.cells g=s.snk.cells g:=by
 unfold SinkR.cells Snk.cells sinkCells SinkR.snk
 simp only
 rw[Int.toNat_of_nonneg h.lo]
theorem sink_cells (s:SinkR) {y:Snk} (h2:y.plan=s.plan) (g:Nat):(s.turn y).cells g=y.cells g:=by
 unfold SinkR.cells Snk.cells sinkCells SinkR.turn
 simp only
 rw[h2]
def SpringR.turn (s:SpringR) (q:Nat):SpringR:={ s with pos:=(q:Nat) }
theorem SpK.cells {M:Nat} {s:SpringR} (h:SpK M s):s.cells=springCells s.text s.pos.toNat:=by
 unfold SpringR.cells springCells
 rw[Int.toNat_of_nonneg h.lo]
theorem Inv.siSet {T T':Tags} {base B M M':Nat} {σ:Sig} {w w':World} (h:Inv T base B M σ w) (hM:M≤M') {k:Nat} {s:SinkR} (hs:σ.si[k]? = some s) {y:Snk} {C:Nat × Nat→Prop} (hst:Stays T T' w w' C) (hC:∀ i,(¬ C (23,i))∧(¬ C (25,i))∧(i≠k→¬ C (22,i)∧¬ C (24,i))) (hC2:¬ C (2,1)) (hx:Blk w' s.bx 173 (y.cells s.gx)) (hm:Blk w' s.bm 173 (y.cells s.gm)) (h2:y.plan=s.plan) (h3:y.got.size≤512*M') (h4:y.pos≤y.plan.length):
  RowT T' w' (2,1) 96 2 σ.vsi (σ.si.set k (s.turn y)).length ((σ.si.set k (s.turn y)).flatMap fun p=>ptrs p.bx p.bm) ∧
  (∀ i p,(σ.si.set k (s.turn y))[i]? = some p→(At T' w' (22,i) p.bx 173 (p.cells p.gx)∧At T' w' (23,i) p.gx 3 (intV p.plan))∧At T' w' (24,i) p.bm 173 (p.cells p.gm)∧At T' w' (25,i) p.gm 3 (intV p.plan)) ∧
  (∀ (i:Nat) (p:SinkR),(σ.si.set k (s.turn y))[i]? = some p→SiK M' p) ∧
  (∀ (i:Nat) (p:SinkR),σ.si[i]? = some p→∃ q:SinkR,(σ.si.set k (s.turn y))[i]? = some q∧q.bx=p.bx∧q.bm=p.bm):=by
 have hkl:=(List.getElem?_eq_some_iff.1 hs).1
 refine ⟨?_,?_,?_,?_⟩
 ·rw[List.length_set,flat_same (fun p:SinkR=>ptrs p.bx p.bm) σ.si k s (s.turn y) hs rfl]
  exact h.rsi.stays hst hC2
 ·intro i p hp
  by_cases hik:i=k
  ·subst hik
   rw[List.getElem?_set_self hkl] at hp
   obtain rfl:=Option.some.inj hp
   obtain ⟨⟨a,b⟩,c,d⟩:=h.si i s hs
   refine ⟨⟨⟨?_,(hst.tag _ a.1.lt).trans a.2⟩,b.stays hst (hC i).1⟩,⟨?_,(hst.tag _ c.1.lt).trans c.2⟩,d.stays hst (hC i).2.1⟩
   ·rw[sink_cells s h2];exact hx
   ·rw[sink_cells s h2];exact hm
  ·rw[List.getElem?_set_ne (fun e=>hik e.symm)] at hp
   obtain ⟨⟨a,b⟩,c,d⟩:=h.si i p hp
   exact ⟨⟨a.stays hst ((hC i).2.2 hik).1,b.stays hst (hC i).1⟩,c.stays hst ((hC i).2.2 hik).2,d.stays hst (hC i).2.1⟩
 ·intro i p hp
  by_cases hik:i=k
  ·subst hik
   rw[List.getElem?_set_self hkl] at hp
   obtain rfl:=Option.some.inj hp
   have K:=(h.siK i s hs).pl
   rw[h2] at h4
   exact ⟨h3,Int.natCast_nonneg _,by show ((y.pos:Nat):Int)≤(s.plan.length:Int);omega,Nat.le_trans K hM⟩
  ·rw[List.getElem?_set_ne (fun e=>hik e.symm)] at hp
   exact (h.siK i p hp).more hM
 ·intro i p hp
  by_cases hik:i=k
  ·subst hik
   obtain rfl:=Option.some.inj (hs.symm.trans hp)
   exact ⟨_,List.getElem?_set_self hkl,rfl,rfl⟩
  ·exact ⟨p,by rw[List.getElem?_set_ne (fun e=>hik e.symm)];exact hp,rfl,rfl⟩
theorem Inv.spSet {T T':Tags} {base B M M':Nat} {σ:Sig} {w w':World} (h:Inv T base B M σ w) (hM:M≤M') {k:Nat} {s:SpringR} (hs:σ.sp[k]? = some s) {q:Nat} {C:Nat × Nat→Prop} (hst:Stays T T' w w' C) (hC:∀ i,i≠k→¬ C (20,i)∧¬ C (21,i)) (hC2:¬ C (2,0)) (hx:Blk w' s.bx 171 (springCells s.text q)) (hm:Blk w' s.bm 171 (springCells s.text q)) (h3:q≤s.text.size):
  RowT T' w' (2,0) 91 2 σ.vsp (σ.sp.set k (s.turn q)).length ((σ.sp.set k (s.turn q)).flatMap fun p=>ptrs p.bx p.bm) ∧
  (∀ i p,(σ.sp.set k (s.turn q))[i]? = some p→At T' w' (20,i) p.bx 171 p.cells∧At T' w' (21,i) p.bm 171 p.cells) ∧
  (∀ (i:Nat) (p:SpringR),(σ.sp.set k (s.turn q))[i]? = some p→SpK M' p):=by
 have hkl:=(List.getElem?_eq_some_iff.1 hs).1
 refine ⟨?_,?_,?_⟩
 ·rw[List.length_set,flat_same (fun p:SpringR=>ptrs p.bx p.bm) σ.sp k s (s.turn q) hs rfl]
  exact h.rsp.stays hst hC2
 ·intro i p hp
  by_cases hik:i=k
  ·subst hik
   rw[List.getElem?_set_self hkl] at hp
   obtain rfl:=Option.some.inj hp
   obtain ⟨a,c⟩:=h.sp i s hs
   exact ⟨⟨hx,(hst.tag _ a.1.lt).trans a.2⟩,⟨hm,(hst.tag _ c.1.lt).trans c.2⟩⟩
  ·rw[List.getElem?_set_ne (fun e=>hik e.symm)] at hp
   obtain ⟨a,c⟩:=h.sp i p hp
   exact ⟨a.stays hst (hC i hik).1,c.stays hst (hC i hik).2⟩
 ·intro i p hp
  by_cases hik:i=k
  ·subst hik
   rw[List.getElem?_set_self hkl] at hp
   obtain rfl:=Option.some.inj hp
   have K:=(h.spK i s hs).sz
   exact ⟨Int.natCast_nonneg _,by show ((q:Nat):Int)≤(s.text.size:Int);omega,Nat.le_trans K hM⟩
  ·rw[List.getElem?_set_ne (fun e=>hik e.symm)] at hp
   exact (h.spK i p hp).more hM
theorem Inv.turnSp {T T':Tags} {base B M M':Nat} {σ:Sig} {w w':World} (h:Inv T base B M σ w) (hM:M≤M') (hM2:M'≤1073741824) {j:Nat} {s:SpringR} (hs:σ.sp[j]? = some s) {q:Nat} (hst:Stays T T' w w' (fun c=>c=(20,j)∨c=(21,j))) (hx:Blk w' s.bx 171 (springCells s.text q)) (hm:Blk w' s.bm 171 (springCells s.text q)) (h3:q≤s.text.size):
  Inv T' base B M' { σ with sp:=σ.sp.set j (s.turn q) } w':=by
 obtain ⟨a1,a2,a3⟩:=h.spSet (M':=M') hM hs hst (fun i hi=>⟨by simp[hi],by simp[hi]⟩) (by simp) hx hm h3
 refine h.uwr hM σ.vwr (σ.sp.set j (s.turn q)) σ.si σ.wr (hst.mono (by intro c hc;rcases hc with rfl | rfl <;> simp)) (h.hw.stays hst (by simp)) a1 a2 a3 (h.rsi.stays hst (by simp)) (fun i p hp=>⟨⟨(h.si i p hp).1.1.stays hst (by simp),(h.si i p hp).1.2.stays hst (by simp)⟩,(h.si i p hp).2.1.stays hst (by simp),(h.si i p hp).2.2.stays hst (by simp)⟩) (fun i p hp=>(h.siK i p hp).more hM) (h.rwr.stays hst (by simp)) (fun i p hp=>⟨(h.wr i p hp).1.stays hst (by simp),(h.wr i p hp).2.1.stays hst (by simp),(h.wr i p hp).2.2.1.more hM,(h.wr i p hp).2.2.2⟩) (Nat.le_trans h.nwr hM) ?_ (sizes_more hM h.sizes)
 have:=h.bound;simp;omega
theorem Inv.turnSS {T T':Tags} {base B M M':Nat} {σ:Sig} {w w':World} (h:Inv T base B M σ w) (hM:M≤M') (hM2:M'≤1073741824) {j k:Nat} {s:SpringR} (hs:σ.sp[j]? = some s) {q:Nat} {t:SinkR} (ht:σ.si[k]? = some t) {y:Snk} (hst:Stays T T' w w' (fun c=>c=(20,j)∨c=(21,j)∨c=(22,k)∨c=(24,k))) (hx:Blk w' s.bx 171 (springCells s.text q)) (hm:Blk w' s.bm 171 (springCells s.text q)) (h3:q≤s.text.size) (hx2:Blk w' t.bx 173 (y.cells t.gx)) (hm2:Blk w' t.bm 173 (y.cells t.gm)) (h4:y.plan=t.plan) (h5:y.got.size≤512*M') (h6:y.pos≤y.plan.length):
  Inv T' base B M' { σ with sp:=σ.sp.set j (s.turn q),si:=σ.si.set k (t.turn y) } w':=by
 obtain ⟨a1,a2,a3⟩:=h.spSet (M':=M') hM hs hst (fun i hi=>⟨by simp[hi],by simp[hi]⟩) (by simp) hx hm h3
 obtain ⟨b1,b2,b3,b4⟩:=h.siSet (M':=M') hM ht hst (fun i=>⟨by simp,by simp,fun hi=>⟨by simp[hi],by simp[hi]⟩⟩) (by simp) hx2 hm2 h4 h5 h6
 refine h.uwr hM σ.vwr (σ.sp.set j (s.turn q)) (σ.si.set k (t.turn y)) σ.wr (hst.mono (by intro c hc;rcases hc with rfl | rfl | rfl | rfl <;> simp)) (h.hw.stays hst (by simp)) a1 a2 a3 b1 b2 b3 (h.rwr.stays hst (by simp)) (fun i p hp=>?_) (Nat.le_trans h.nwr hM) ?_ (sizes_more hM h.sizes)
 ·obtain ⟨c1,c2,c3,z,c4,c5,c6⟩:=h.wr i p hp
  obtain ⟨z',z1,z2,z3⟩:=b4 _ _ c4
  exact ⟨c1.stays hst (by simp),c2.stays hst (by simp),c3.more hM,z',z1,z2.trans c5,z3.trans c6⟩
 ·have:=h.bound;simp;omega
theorem Inv.turnWr {T T':Tags} {base B M M':Nat} {σ:Sig} {w w':World} (h:Inv T base B M σ w) (hM:M≤M') (hM2:M'≤1073741824) {j:Nat} {p:WrR} (hp:σ.wr[j]? = some p) {t:SinkR} (ht:σ.si[p.k]? = some t) {y:Snk} (q:WrR) (hq1:q.bx=p.bx) (hq2:q.bm=p.bm) (hq3:q.k=p.k) (hq4:q.sx=t.bx) (hq5:q.sm=t.bm) (hK:WrK M' q) (hst:Stays T T' w w' (fun c=>c=(22,p.k)∨c=(24,p.k)∨c=(40,j)∨c=(41,j))) (hbx:Blk w' p.bx 201 q.xV) (hbm:Blk w' p.bm 204 q.mV) (hx2:Blk w' t.bx 173 (y.cells t.gx)) (hm2:Blk w' t.bm 173 (y.cells t.gm)) (h4:y.plan=t.plan) (h5:y.got.size≤512*M') (h6:y.pos≤y.plan.length):
  Inv T' base B M' { σ with si:=σ.si.set p.k (t.turn y),wr:=σ.wr.set j q } w':=by
 have hjl:=(List.getElem?_eq_some_iff.1 hp).1
 obtain ⟨b1,b2,b3,b4⟩:=h.siSet (M':=M') hM ht hst (fun i=>⟨by simp,by simp,fun hi=>⟨by simp[hi],by simp[hi]⟩⟩) (by simp) hx2 hm2 h4 h5 h6
 refine h.uwr hM σ.vwr σ.sp (σ.si.set p.k (t.turn y)) (σ.wr.set j q) (hst.mono (by intro c hc;rcases hc with rfl | rfl | rfl | rfl <;> simp)) (h.hw.stays hst (by simp)) (h.rsp.stays hst (by simp)) (fun i p hp=>⟨(h.sp i p hp).1.stays hst (by simp),(h.sp i p hp).2.stays hst (by simp)⟩) (fun i p hp=>(h.spK i p hp).more hM) b1 b2 b3 ?_ ?_ ?_ ?_ (sizes_more hM h.sizes)
 ·rw[List.length_set,flat_same (fun p:WrR=>ptrs p.bx p.bm) σ.wr j p q hp (by simp only[hq1,hq2])]
  exact h.rwr.stays hst (by simp)
 ·intro i r hr
  by_cases hij:i=j
  ·subst hij
   rw[List.getElem?_set_self hjl] at hr
   obtain rfl:=Option.some.inj hr
   obtain ⟨c1,c2,c3,z,c4,c5,c6⟩:=h.wr i p hp
   obtain ⟨z',z1,z2,z3⟩:=b4 _ _ ht
   exact ⟨⟨by rw[hq1];exact hbx,by rw[hq1];exact (hst.tag _ c1.1.lt).trans c1.2⟩,⟨by rw[hq2];exact hbm,by rw[hq2];exact (hst.tag _ c2.1.lt).trans c2.2⟩,hK,z',by rw[hq3];exact z1,by rw[z2,hq4],by rw[z3,hq5]⟩
  ·rw[List.getElem?_set_ne (fun e=>hij e.symm)] at hr
   obtain ⟨c1,c2,c3,z,c4,c5,c6⟩:=h.wr i r hr
   obtain ⟨z',z1,z2,z3⟩:=b4 _ _ c4
   exact ⟨c1.stays hst (by simp[hij]),c2.stays hst (by simp[hij]),c3.more hM,z',z1,z2.trans c5,z3.trans c6⟩
 ·rw[List.length_set];exact Nat.le_trans h.nwr hM
 ·have:=h.bound;simp;omega
theorem Inv.addWr {T:Tags} {base B M M':Nat} {σ:Sig} {w w1:World} (h:Inv T base B M σ w) (hM:M≤M') (hM2:M'≤1073741824) (hn:σ.wr.length<M') (x:WrR) (hx1:At T w (40,σ.wr.length) x.bx 201 x.xV) (hx2:At T w (41,σ.wr.length) x.bm 204 x.mV) (hK:WrK M' x) (hs:∃ s,σ.si[x.k]? = some s∧s.bx=x.sx∧s.bm=x.sm)
  (o:Obj) (v':Value) (hg:(w.alloc o).grownBy w1 σ.vwr.ownBlock) (hr:Row w1 0 121 2 v' (σ.wr.length+1) ((σ.wr.flatMap fun p=>ptrs p.bx p.bm)++ptrs x.bx x.bm)) (hat:v'.ownBlock=σ.vwr.ownBlock∨∃ g,v'.ownBlock=some g∧(w.alloc o).heap.size≤g):
  ∃ T',Inv T' base B M' { σ with vwr:=v',wr:=σ.wr++[x] } (w1.setCell ⟨B,3,none⟩ v')∧Below base w (w1.setCell ⟨B,3,none⟩ v'):=by
 obtain ⟨q1,q2,q3⟩:=append_field (f:=3) h.hw h.rwr (by decide) hg hr hat
 refine ⟨fresh T w (2,3),h.uwr hM v' σ.sp σ.si (σ.wr++[x]) (q1.mono (by intro c hc;rcases hc with h | h <;> simp[h])) q2 (h.rsp.stays q1 (by simp)) (fun i p hp=>⟨(h.sp i p hp).1.stays q1 (by simp),(h.sp i p hp).2.stays q1 (by simp)⟩) (fun i p hp=>(h.spK i p hp).more hM) (h.rsi.stays q1 (by simp)) (fun i p hp=>⟨⟨(h.si i p hp).1.1.stays q1 (by simp),(h.si i p hp).1.2.stays q1 (by simp)⟩,(h.si i p hp).2.1.stays q1 (by simp),(h.si i p hp).2.2.stays q1 (by simp)⟩) (fun i p hp=>(h.siK i p hp).more hM) ?_ ?_ ?_ ?_ ?_,q1.below h.bsz h.old (by simp)⟩
 ·have:((σ.wr++[x]).flatMap fun p=>ptrs p.bx p.bm)=(σ.wr.flatMap fun p=>ptrs p.bx p.bm)++ptrs x.bx x.bm:=by simp[List.flatMap_append]
  rw[this]
  simpa using q3
 ·intro i p hp
  by_cases hi:i<σ.wr.length
  ·rw[List.getElem?_append_left hi] at hp
   obtain ⟨a1,a2,a3,a4⟩:=h.wr i p hp
   exact ⟨a1.stays q1 (by simp),a2.stays q1 (by simp),a3.more hM,a4⟩
  ·have hi2:i=σ.wr.length:=by
    have:=(List.getElem?_eq_some_iff.1 hp).1
    simp at this;omega
   subst hi2
   simp at hp
   subst hp
   exact ⟨hx1.stays q1 (by simp),hx2.stays q1 (by simp),hK,hs⟩
 ·simp;omega
 ·have:=h.bound;simp;omega
 ·exact sizes_more hM h.sizes
set_option maxHeartbeats 800000 in
theorem refGive_any (rb b g:Nat) (k:Snk) (t:ByteArray) (w:World) (hrb:w.cell? ⟨rb,0,none⟩=some (.pointer (some ⟨b,0,none⟩))) (hb:Blk w b 173 (k.cells g)) (hg:Blk w g 3 (intV k.plan)) (hs:k.got.size+t.size<1125899906842624) (hp:k.pos<1125899906842624):
  Calls Tryz.prog 151 #[.pointer (some ⟨rb,0,none⟩),.string t] w fun e w'=>e = .returned (.int .i64 (k.err t))∧Blk w' b 173 ((k.put t).cells g)∧w.grownBy w' (some b):=by
 have HW:=hide (sinkWrite_any b g k.got t k.plan k.pos w hb hg hs hp)
 have hput:(k.put t).cells g=sinkCells (k.got++t.extract 0 ((sinkN k.plan k.pos t.size).getD 0)) g k.plan.length (sinkAt k.plan k.pos):=rfl
 rw[←hput] at HW
 have herr:k.err t=if sinkN k.plan k.pos t.size=some t.size then 0 else 16:=by unfold Snk.err Snk.ok;simp
 rw[herr]
 generalize (k.put t).cells g=PC at *
 clear hput herr hb hg hs hp
 cases hn:sinkN k.plan k.pos t.size with
 | none=>
  rw[hn] at HW
  simp only[if_true,Option.getD_none] at HW
  rw[if_neg (by simp)]
  clear hn
  go_enter Tryz.func151,Tryz.ntmps151
  go_wp2_with fail
  refine HW.out.mono ?_
  rintro e w1 ⟨rfl,hB,hG⟩
  have HB:=hide (And.intro hB hG)
  clear HW hB hG
  go_wp2
  go_ret
  exact ⟨rfl,HB.out⟩
 | some m=>
  have hle:=sinkN_le hn
  rw[hn] at HW
  simp only[reduceCtorEq,if_false,Option.getD_some] at HW
  by_cases hm:m=t.size
  ·rw[if_pos (by rw[hm])]
   have jm:((m:Int) != (t.size:Int))=false:=by simp only[bne,beq_iff_eq.2 (show (m:Int)=(t.size:Int) by omega)];rfl
   clear hn hle hm
   go_enter Tryz.func151,Tryz.ntmps151
   go_wp2_with fail
   refine HW.out.mono ?_
   rintro e w1 ⟨rfl,hB,hG⟩
   have HB:=hide (And.intro hB hG)
   clear HW hB hG
   go_wp2
   go_ret
   exact ⟨rfl,HB.out⟩
  ·rw[if_neg (by intro e;injection e with e;exact hm e)]
   have jm:((m:Int) != (t.size:Int))=true:=by rw[bne_iff_ne];omega
   clear hn hle hm
   go_enter Tryz.func151,Tryz.ntmps151
   go_wp2_with fail
   refine HW.out.mono ?_
   rintro e w1 ⟨rfl,hB,hG⟩
   have HB:=hide (And.intro hB hG)
   clear HW hB hG
   go_wp2
   go_ret
   exact ⟨rfl,HB.out⟩
def wmV (sk:Nat) (key text:ByteArray) (n:Nat) (e:Int):List Value:=[.pointer (some ⟨sk,0,none⟩),.string key,.string text,.int .i64 (n:Nat),.int .i64 e]
structure WmRep (wm sk g:Nat) (key:ByteArray) (s:Ref.Wr) (w:World):Prop where
 wr:∃ text:List UInt8,text.length=16*s.n+s.t.length∧text.drop (16*s.n)=s.t∧Blk w wm 204 (wmV sk key ⟨text.toArray⟩ s.n 0)
 t16:s.t.length≤16
 sn:Blk w sk 173 (s.k.cells g)
 pl:Blk w g 3 (intV s.k.plan)
def WroteM (wm sk g:Nat) (key:ByteArray) (s:Ref.Wr) (p:ByteArray) (w:World) (e:Ending) (w':World):Prop:=
 (∃ r,s.at key.data.toList p.data.toList p.size=some r∧e = .returned (.tuple #[.int .i64 (p.size:Nat),.int .i64 0])∧WmRep wm sk g key r w'∧Chg (fun x=>x=wm∨x=sk) w w') ∨
 (∃ i r text n,i<p.size∧s.at key.data.toList p.data.toList i=some r∧r.t.length=16∧r.k.ok (r.box key.data.toList false)=false∧e = .returned (.tuple #[.int .i64 (i:Nat),.int .i64 16])∧Blk w' wm 204 (wmV sk key text n 16)∧Blk w' sk 173 ((r.k.put (r.box key.data.toList false)).cells g)∧Chg (fun x=>x=wm∨x=sk) w w')
theorem byte_ext (p:ByteArray) (i:Nat) (h:i<p.size):(p.extract i (i+1)).data.toList=[p.data.toList.getD i 0]:=by
 rw[sub_list,show i+1-i=1 by omega]
 have hl:i<p.data.toList.length:=by rw[ba_len];exact h
 rw[List.drop_eq_getElem_cons hl,List.getD_eq_getElem?_getD,List.getElem?_eq_getElem hl]
 rfl
theorem tx_more {text:List UInt8} {n:Nat} {t:List UInt8} (h1:text.length=16*n+t.length) (h2:text.drop (16*n)=t) (x:UInt8):(text++[x]).length=16*n+(t++[x]).length∧(text++[x]).drop (16*n)=t++[x]:=by
 refine ⟨by simp;omega,?_⟩
 rw[List.drop_append_of_le_length (by omega),h2]
theorem tx_next {text:List UInt8} {n:Nat} {t:List UInt8} (h1:text.length=16*n+t.length) (h3:t.length=16) (x:UInt8):(text++[x]).length=16*(n+1)+[x].length∧(text++[x]).drop (16*(n+1))=[x]:=by
 refine ⟨by simp;omega,?_⟩
 rw[List.drop_append,List.drop_eq_nil_of_le (by omega),show 16*(n+1)-text.length=0 by omega]
 rfl
set_option maxRecDepth 100000 in
set_option maxHeartbeats 6400000 in
theorem refWrite_any (wm sk g:Nat) (key:ByteArray) (s:Ref.Wr) (p:ByteArray) (w:World) (hR:WmRep wm sk g key s w) (hkey:key.size=32) (hwk:wm≠sk) (hwg:wm≠g) (hgk:g≠sk)
  (hn:s.n+p.size+10≤1099511627776) (hgot:s.k.got.size+32*p.size+4000<1125899906842624) (hpos:s.k.pos+p.size+20<1125899906842624):
  Calls Tryz.prog 81 #[.pointer (some ⟨wm,0,none⟩),.string p] w (WroteM wm sk g key s p w):=by
 have HF:=hide (Ref.Wr.at_fits s hR.t16 key.data.toList p.data.toList)
 have HR0:=hide hR
 obtain ⟨tx0,_,_,hB0⟩:=hR.wr
 have c40:=hB0.cell (i:=4) rfl
 obtain ⟨P,hP⟩:∃ P:Nat,p.size=P:=⟨_,rfl⟩
 have HPS:=hide hP
 have HBX:=hide (fun n (t:List UInt8) (w':World) (h1:n≤1125899906842624) (h2:t.length≤16)=>refBox_any key n false ⟨t.toArray⟩ w' hkey h1 (by rw[two_size];omega))
 generalize hPP:WroteM wm sk g key s p w=PP
 rw[hP] at hn hgot hpos
 clear hR hB0
 go_enter Tryz.func81,Tryz.ntmps81
 go_wp2
 go_loopw [6] (fun vi wr=>∃ (i:Nat) (r:Ref.Wr),i≤P∧vi = .int .i64 (i:Nat)∧s.at key.data.toList p.data.toList i=some r∧WmRep wm sk g key r wr∧Chg (fun x=>x=wm∨x=sk) w wr) (fun vi _=>P-(intOf vi).toNat)
 case atStart=>exact ⟨0,s,Nat.zero_le _,rfl,rfl,HR0.out,Chg.refl _ _⟩
 case round=>
  clear HR0 c40
  obtain ⟨i,r,hi,rfl,hat,hR,hC⟩:=hrel
  have HAT:=hide hat
  have hfit:=HF.out i r hat
  have f1:=hfit.n
  have f2:=hfit.got
  have f3:=hfit.pos
  obtain ⟨text,ht1,ht2,hB⟩:=hR.wr
  have ht16:=hR.t16
  have HR:=hide hR
  have HC:=hide hC
  have HB:=hide hB
  have c2:=hB.cell (i:=2) rfl
  have c3:=hB.cell (i:=3) rfl
  have c1:=hB.cell (i:=1) rfl
  have fz:=hB.frozen
  have HT1:=hide (And.intro ht1 ht2)
  have htz:(⟨text.toArray⟩:ByteArray).size=text.length:=two_size _
  clear hat hfit hR hC hB
  by_cases hlt:i<P
  ·have ji:(i:Int)<(P:Int):=by omega
   obtain ⟨i1,hi1⟩:∃ i1:Nat,i+1=i1:=⟨_,rfl⟩
   have ti1:(i:Int)+1=(i1:Int):=by omega
   have hwi1:IntKind.i64.wrap ((i1:Nat):Int)=(i1:Int):=IntWalk.i64_in _ (by omega)
   have hP1:(i1:Int)≤(P:Int):=by omega
   have hi1b:(i:Int)≤(i1:Int):=by omega
   obtain ⟨N1,hN1⟩:∃ N1:Nat,r.n+1=N1:=⟨_,rfl⟩
   have tN1:(r.n:Int)+1=(N1:Int):=by omega
   have hwN1:IntKind.i64.wrap ((N1:Nat):Int)=(N1:Int):=IntWalk.i64_in _ (by omega)
   obtain ⟨E,hE⟩:∃ E:Nat,N1*16=E:=⟨_,rfl⟩
   have tE:(N1:Int)*16=(E:Int):=by omega
   have hwE:IntKind.i64.wrap ((E:Nat):Int)=(E:Int):=IntWalk.i64_in _ (by omega)
   obtain ⟨F,hF⟩:∃ F:Nat,r.n*16=F:=⟨_,rfl⟩
   have tF:(r.n:Int)*16=(F:Int):=by omega
   have hwF:IntKind.i64.wrap ((F:Nat):Int)=(F:Int):=IntWalk.i64_in _ (by omega)
   obtain ⟨L,hL⟩:∃ L:Nat,text.length=L:=⟨_,rfl⟩
   have jFL:(F:Int)≤(L:Int):=by omega
   have hLb:L≤35184372088832:=by omega
   rw[hL] at htz
   have hxb:=byte_ext p i (by rw[HPS.out];exact hlt)
   rw[hi1] at hxb
   have hxz:(p.extract i i1).size=1:=by rw[ByteArray.size_extract];omega
   obtain ⟨X,hX⟩:∃ X,p.data.toList.getD i 0=X:=⟨_,rfl⟩
   rw[hX] at hxb
   have hTB:(⟨text.toArray⟩:ByteArray)++p.extract i i1=⟨(text++[X]).toArray⟩:=ba_ext (by rw[ba_list,hxb,two_toList,two_toList])
   have HTB:=hide hTB
   have hsub:(⟨text.toArray⟩:ByteArray).extract F L=⟨r.t.toArray⟩:=ba_ext (by rw[sub_list,two_toList,two_toList,show F=16*r.n by omega,ht2,List.take_of_length_le (by omega)])
   have hst:s.at key.data.toList p.data.toList (i+1)=r.step key.data.toList X:=by
    rw[Ref.Wr.at,HAT.out,←hX]
    rfl
   have HLT:=hide hlt
   have HI1:=hide hi1
   have HN1:=hide hN1
   obtain ⟨TT,hTT⟩:∃ TT,(⟨text.toArray⟩:ByteArray)=TT:=⟨_,rfl⟩
   rw[hTT] at c2 htz hsub HTB HB
   have u1:¬ (9223372036854775807<TT.size+(p.extract i i1).size):=by omega
   by_cases hfull:r.t.length=16
   ·have zE:((L:Int)==(E:Int))=true:=by rw[beq_iff_eq];omega
    have hbx:(⟨(Ref.box key.data.toList r.n false r.t).toArray⟩:ByteArray)=r.box key.data.toList false:=rfl
    have hbz:(r.box key.data.toList false).size≤32:=by
     have h1:=Ref.box_size key.data.toList r.n false r.t
     have h2:(r.box key.data.toList false).size=(Ref.box key.data.toList r.n false r.t).length:=ba_size _
     omega
    have HBX1:=hide (fun w'=>HBX.out r.n r.t w' (by omega) (by omega))
    rw[two_toList,hbx,←hsub] at HBX1
    have HGV:=hide (fun (w':World) (h0:w'.cell? ⟨wm,0,none⟩=some (.pointer (some ⟨sk,0,none⟩))) h1 h2=>refGive_any wm sk g r.k (r.box key.data.toList false) w' h0 h1 h2 (by omega) (by omega))
    have HFU:=hide hfull
    have hwl:wm<wr.heap.size:=HB.out.lt
    have HTX:=hide (tx_next HT1.out.1 hfull X)
    have hG2:=fun (w3:World)=>(((World.grownBy.refl w3 (some wm)).setCell 3 (.int .i64 (N1:Nat))).setCell 2 (.string (TT++p.extract i i1)))
    have HG2:=hide hG2
    have HSN:=hide (And.intro HR.out.sn HR.out.pl)
    have HSS:=hide hst
    have HTE:=hide HTB.out
    clear hst hsub hxb hTB hL ht1 ht2 ht16 hX hTT hG2 f1 f2 f3 hi hlt hi1 hN1 hE hF hfull hbx HBX
    go_wp2
    go_quiet (fail)
    go_wp2
    refine wp_letterW (fun w'=>Blk w' wm 204 (wmV sk key TT r.n 0)∧Blk w' sk 173 (r.k.cells g)∧Blk w' g 3 (intV r.k.plan)∧Chg (fun x=>x=wm∨x=sk) w w') ⟨HB.out,HSN.out.1,HSN.out.2,⟨HC.out.os,HC.out.tape,HC.out.output,HC.out.size,HC.out.block⟩⟩ ?_
    clear c1 c2 c3 fz HB HC HR HSN hwl
    rintro wq ⟨hBq,hSq,hPq,hCq⟩
    have c1:=hBq.cell (i:=1) rfl
    have c2:=hBq.cell (i:=2) rfl
    have c3:=hBq.cell (i:=3) rfl
    have hwl:=hBq.lt
    have HBQ:=hide (And.intro hBq (And.intro hSq (And.intro hPq hCq)))
    clear hBq hSq hPq hCq
    generalize hBXe:r.box key.data.toList false=BX at *
    have HBE:=hide hBXe
    clear hBXe
    go_region_held3 (fun w'=>w'.cell? ⟨wm,1,none⟩=some (.string key)∧w'.cell? ⟨wm,2,none⟩=some (.string TT)∧w'.cell? ⟨wm,3,none⟩=some (.int .i64 (r.n:Nat))) (refine ⟨?_,?_,?_⟩ <;> first | assumption | (exact (hb2.cell hwl).trans (by assumption))) ((go_at_call 150;refine (HBX1.out _).mono ?_;rintro e w2 ⟨rfl,hb2⟩))
    rename_i hH
    clear hH
    have hb2':Below wq.heap.size wq w2:=(show Below wq.heap.size wq wq.drew from ⟨rfl,rfl,rfl,Nat.le_refl _,fun _ _=>rfl⟩).trans hb2
    obtain ⟨q1,q2,q3,q4⟩:=HBQ.out
    have hB2:=q1.below hb2' q1.lt
    have HG2':=hide (HGV.out w2 (hB2.cell (i:=0) rfl) (q2.below hb2' q2.lt) (q3.below hb2' q3.lt))
    have HP2:=hide (q3.below hb2' q3.lt)
    have HC2:=hide (q4.trans (Chg.of_below hb2'))
    have HB2:=hide hB2
    clear c1 c2 c3 hb2 hb2' HBX1 HGV q1 q2 q3 q4 hB2 HBQ hwl
    go_wp2_with fail
    refine HG2'.out.mono ?_
    rintro e w3 ⟨rfl,hK3,hG3⟩
    have hB3:=HB2.out.grown hG3 (fun e=>hwk (by injection e with e))
    have HP3:=hide (HP2.out.grown hG3 (fun e=>hgk (by injection e with e)))
    have HC3:=hide (HC2.out.grew hG3 (.inl (.inr rfl)))
    have HK3:=hide hK3
    have c2:=hB3.cell (i:=2) rfl
    have c3:=hB3.cell (i:=3) rfl
    have c4:=hB3.cell (i:=4) rfl
    have fz:=hB3.frozen
    have HB3:=hide hB3
    clear HG2' hK3 hG3 HB2 HP2 HC2 hB3
    rcases r.k.err_cases BX with ⟨he,ho⟩ | ⟨he,ho⟩
    ·rw[he]
     have HNX:=hide (show s.at key.data.toList p.data.toList (i+1)=some ⟨r.n+1,[X],r.k.put BX⟩ by rw[HSS.out];unfold Ref.Wr.step;rw[if_pos HFU.out,HBE.out,if_pos ho])
     have hG4:=HG2.out w3
     have HW2:=hide (And.intro (show Blk ((w3.setCell ⟨wm,3,none⟩ (.int .i64 (N1:Nat))).setCell ⟨wm,2,none⟩ (.string (TT++p.extract i i1))) wm 204 (wmV sk key (TT++p.extract i i1) N1 0) from (HB3.out.setCell_same 3 _).setCell_same 2 _) (And.intro (HK3.out.grown hG4 (fun e=>hwk (by injection e with e;exact e.symm))) (And.intro (HP3.out.grown hG4 (fun e=>hwg (by injection e with e;exact e.symm))) (HC3.out.grew hG4 (.inl (.inl rfl))))))
     rw[HTB.out] at HW2
     clear he ho hG4 HG2 HSS
     go_wp2
     go_region
     all_goals
      go_wp2
      go_roundw
      case rel=>
       obtain ⟨b1,b2,b3,b4⟩:=HW2.out
       rw[HTE.out]
       have hN1:=HN1.out
       exact ⟨i+1,⟨r.n+1,[X],r.k.put BX⟩,HLT.out,(by have h:=HI1.out;subst h;go_num),HNX.out,⟨⟨text++[X],HTX.out.1,HTX.out.2,by rw[hN1];exact b1⟩,(show 1≤16 by decide),b2,b3⟩,⟨b4.os,b4.tape,b4.output,b4.size,b4.block⟩⟩
      case measure=>have:=HLT.out;simp[intOf];omega
    ·rw[he]
     have hG4:=(World.grownBy.refl w3 (some wm)).setCell 4 (.int .i64 16)
     have HW2:=hide (And.intro (show Blk (w3.setCell ⟨wm,4,none⟩ (.int .i64 16)) wm 204 (wmV sk key TT r.n 16) from HB3.out.setCell_same 4 _) (And.intro (HK3.out.grown hG4 (fun e=>hwk (by injection e with e;exact e.symm))) (HC3.out.grew hG4 (.inl (.inl rfl)))))
     have HO:=hide ho
     clear he ho hG4 HG2 HSS
     go_wp2
     rw[←hPP]
     obtain ⟨b1,b2,b4⟩:=HW2.out
     exact .inr ⟨i,r,TT,r.n,by rw[HPS.out];exact HLT.out,HAT.out,HFU.out,by rw[HBE.out];exact HO.out,rfl,b1,by rw[HBE.out];exact b2,b4⟩
   ·have zE:((L:Int)==(E:Int))=false:=beq_eq_false_iff_ne.2 (by omega)
    have HNX:=hide (show s.at key.data.toList p.data.toList (i+1)=some ⟨r.n,r.t++[X],r.k⟩ by rw[hst];unfold Ref.Wr.step;rw[if_neg hfull])
    have HTX:=hide (tx_more HT1.out.1 HT1.out.2 X)
    have HT17:=hide (show (r.t++[X]).length≤16 by simp;omega)
    have hG2:=(World.grownBy.refl wr (some wm)).setCell 2 (.string (TT++p.extract i i1))
    have HW2:=hide (And.intro (show Blk (wr.setCell ⟨wm,2,none⟩ (.string (TT++p.extract i i1))) wm 204 (wmV sk key (TT++p.extract i i1) r.n 0) from HB.out.setCell_same 2 _) (And.intro (HR.out.sn.grown hG2 (fun e=>hwk (by injection e with e;exact e.symm))) (And.intro (HR.out.pl.grown hG2 (fun e=>hwg (by injection e with e;exact e.symm))) (HC.out.grew hG2 (.inl (.inl rfl))))))
    rw[HTB.out] at HW2
    have HTE:=hide HTB.out
    clear hst hfull hsub hxb hTB hL ht1 ht2 ht16 hX hTT hG2 f1 f2 f3 hi hlt hi1 hN1 hE hF
    go_wp2
    go_quiet (fail)
    go_wp2
    go_region
    all_goals
     go_wp2
     go_roundw
     case rel=>
      obtain ⟨b1,b2,b3,b4⟩:=HW2.out
      rw[HTE.out]
      exact ⟨i+1,⟨r.n,r.t++[X],r.k⟩,HLT.out,(by have h:=HI1.out;subst h;go_num),HNX.out,⟨⟨text++[X],HTX.out.1,HTX.out.2,b1⟩,HT17.out,b2,b3⟩,⟨b4.os,b4.tape,b4.output,b4.size,b4.block⟩⟩
     case measure=>have:=HLT.out;simp[intOf];omega
  ·obtain rfl:i=P:=by omega
   have ji:¬ (i:Int)<(i:Int):=by omega
   clear hlt hi ht1 ht2
   go_wp2
   rw[←hPP]
   exact .inl ⟨r,by rw[HPS.out];exact HAT.out,by rw[HPS.out],HR.out,HC.out⟩
def ClosedM (wm sk g:Nat) (key:ByteArray) (s:Ref.Wr) (w:World) (e:Ending) (w':World):Prop:=
 e = .returned (.int .i64 (s.k.err (s.box key.data.toList true)))∧(∃ text n,Blk w' wm 204 (wmV sk key text n (if s.k.ok (s.box key.data.toList true) then 14 else 16)))∧Blk w' sk 173 ((s.k.put (s.box key.data.toList true)).cells g)∧Chg (fun x=>x=wm∨x=sk) w w'
set_option maxRecDepth 100000 in
set_option maxHeartbeats 1600000 in
theorem refClose_any (wm sk g:Nat) (key:ByteArray) (s:Ref.Wr) (w:World) (hR:WmRep wm sk g key s w) (hkey:key.size=32) (hwk:wm≠sk)
  (hn:s.n+10≤1099511627776) (hgot:s.k.got.size+4000<1125899906842624) (hpos:s.k.pos+20<1125899906842624):
  Calls Tryz.prog 83 #[.pointer (some ⟨wm,0,none⟩)] w (ClosedM wm sk g key s w):=by
 obtain ⟨text,ht1,ht2,hB⟩:=hR.wr
 have ht16:=hR.t16
 have c1:=hB.cell (i:=1) rfl
 have c2:=hB.cell (i:=2) rfl
 have c3:=hB.cell (i:=3) rfl
 have c4:=hB.cell (i:=4) rfl
 have hwl:=hB.lt
 have htz:(⟨text.toArray⟩:ByteArray).size=text.length:=two_size _
 obtain ⟨F,hF⟩:∃ F:Nat,s.n*16=F:=⟨_,rfl⟩
 have tF:(s.n:Int)*16=(F:Int):=by omega
 have hwF:IntKind.i64.wrap ((F:Nat):Int)=(F:Int):=IntWalk.i64_in _ (by omega)
 obtain ⟨L,hL⟩:∃ L:Nat,text.length=L:=⟨_,rfl⟩
 rw[hL] at htz
 have jFL:(F:Int)≤(L:Int):=by omega
 have hFb:F≤35184372088832:=by omega
 have hsub:(⟨text.toArray⟩:ByteArray).extract F L=⟨s.t.toArray⟩:=ba_ext (by rw[sub_list,two_toList,two_toList,show F=16*s.n by omega,ht2,List.take_of_length_le (by omega)])
 have hbx:(⟨(Ref.box key.data.toList s.n true s.t).toArray⟩:ByteArray)=s.box key.data.toList true:=rfl
 have hbz:(s.box key.data.toList true).size≤32:=by
  have h1:=Ref.box_size key.data.toList s.n true s.t
  have h2:(s.box key.data.toList true).size=(Ref.box key.data.toList s.n true s.t).length:=ba_size _
  omega
 have HBX1:=hide (fun w'=>refBox_any key s.n true ⟨s.t.toArray⟩ w' hkey (by omega) (by rw[two_size];omega))
 rw[two_toList,hbx,←hsub] at HBX1
 have HGV:=hide (fun (w':World) (h0:w'.cell? ⟨wm,0,none⟩=some (.pointer (some ⟨sk,0,none⟩))) h1 h2=>refGive_any wm sk g s.k (s.box key.data.toList true) w' h0 h1 h2 (by omega) (by omega))
 have HB:=hide hB
 have HSN:=hide (And.intro hR.sn hR.pl)
 generalize hTT:(⟨text.toArray⟩:ByteArray)=TT at *
 generalize hPP:ClosedM wm sk g key s w=PP
 have HPE:=hide (show ClosedM wm sk g key s w=PP from hPP)
 generalize hBX:s.box key.data.toList true=BX at *
 have HBE:=hide hBX
 clear hR hB hsub hbx ht1 ht2 ht16 hL hF hTT hBX hPP
 go_enter Tryz.func83,Tryz.ntmps83
 go_wp2
 go_region_held3 (fun w'=>w'.cell? ⟨wm,1,none⟩=some (.string key)∧w'.cell? ⟨wm,2,none⟩=some (.string TT)∧w'.cell? ⟨wm,3,none⟩=some (.int .i64 (s.n:Nat))) (refine ⟨?_,?_,?_⟩ <;> first | assumption | (exact (hb2.cell hwl).trans (by assumption))) ((go_at_call 150;refine (HBX1.out _).mono ?_;rintro e w2 ⟨rfl,hb2⟩))
 rename_i hH
 clear hH
 have hb2':Below w.heap.size w w2:=(show Below w.heap.size w w.drew from ⟨rfl,rfl,rfl,Nat.le_refl _,fun _ _=>rfl⟩).trans hb2
 have hB2:=HB.out.below hb2' HB.out.lt
 have HG2':=hide (HGV.out w2 (hB2.cell (i:=0) rfl) (HSN.out.1.below hb2' HSN.out.1.lt) (HSN.out.2.below hb2' HSN.out.2.lt))
 have HC2:=hide (Chg.of_below (S:=fun x=>x=wm∨x=sk) hb2')
 have HB2:=hide hB2
 clear c1 c2 c3 c4 hb2 hb2' HBX1 HGV hB2 HB HSN hwl
 go_wp2_with fail
 refine HG2'.out.mono ?_
 rintro e w3 ⟨rfl,hK3,hG3⟩
 have hB3:=HB2.out.grown hG3 (fun e=>hwk (by injection e with e))
 have HC3:=hide (HC2.out.grew hG3 (.inl (.inr rfl)))
 have HK3:=hide hK3
 have c4:=hB3.cell (i:=4) rfl
 have fz:=hB3.frozen
 have HB3:=hide hB3
 clear HG2' hK3 hG3 HB2 HC2 hB3
 rcases s.k.err_cases BX with ⟨he,ho⟩ | ⟨he,ho⟩
 ·rw[he]
  have hG4:=(World.grownBy.refl w3 (some wm)).setCell 4 (.int .i64 14)
  have HW2:=hide (And.intro (show Blk (w3.setCell ⟨wm,4,none⟩ (.int .i64 14)) wm 204 (wmV sk key TT s.n 14) from HB3.out.setCell_same 4 _) (And.intro (HK3.out.grown hG4 (fun e=>hwk (by injection e with e;exact e.symm))) (HC3.out.grew hG4 (.inl (.inl rfl)))))
  have HO:=hide (And.intro he ho)
  clear he ho hG4
  go_wp2
  rw[←HPE.out]
  obtain ⟨b1,b2,b4⟩:=HW2.out
  obtain ⟨he,ho⟩:=HO.out
  unfold ClosedM
  rw[HBE.out]
  exact ⟨by rw[he];rfl,⟨TT,s.n,by rw[ho,if_pos rfl];exact b1⟩,b2,b4⟩
 ·rw[he]
  have hG4:=((World.grownBy.refl w3 (some wm)).setCell 4 (.int .i64 14)).setCell 4 (.int .i64 16)
  have HW2:=hide (And.intro (show Blk ((w3.setCell ⟨wm,4,none⟩ (.int .i64 14)).setCell ⟨wm,4,none⟩ (.int .i64 16)) wm 204 (wmV sk key TT s.n 16) from (HB3.out.setCell_same 4 _).setCell_same 4 _) (And.intro (HK3.out.grown hG4 (fun e=>hwk (by injection e with e;exact e.symm))) (HC3.out.grew hG4 (.inl (.inl rfl)))))
  have HO:=hide (And.intro he ho)
  clear he ho hG4
  go_wp2
  rw[←HPE.out]
  obtain ⟨b1,b2,b4⟩:=HW2.out
  obtain ⟨he,ho⟩:=HO.out
  unfold ClosedM
  rw[HBE.out]
  exact ⟨by rw[he];rfl,⟨TT,s.n,by rw[ho,if_neg (by decide)];exact b1⟩,b2,b4⟩
theorem Chg.two {w w1 w2:World} {a b c d:Nat} (h1:Chg (fun x=>x=a∨x=b) w w1) (h2:Chg (fun x=>x=c∨x=d) w1 w2):Chg (fun x=>x=a∨x=b∨x=c∨x=d) w w2:=
 (h1.mono (fun k h=>by rcases h with h | h <;> simp[h])).trans (h2.mono (fun k h=>by rcases h with h | h <;> simp[h]))
theorem put_keep {k:Snk} (h:k.pos≤k.plan.length) (t:ByteArray):(k.put t).pos≤(k.put t).plan.length:=by
 show sinkAt k.plan k.pos≤k.plan.length
 unfold sinkAt
 split <;> omega
theorem at_keep {s:Ref.Wr} {key p:List UInt8} (h0:s.k.pos≤s.k.plan.length):∀ (i:Nat) (r:Ref.Wr),s.at key p i=some r→r.k.pos≤r.k.plan.length∧16*r.n+r.t.length=16*s.n+s.t.length+i
 | 0,r,h=>by
  have e:s=r:=Option.some.inj h
  subst e
  exact ⟨h0,rfl⟩
 | i+1,r,h=>by
  rw[Ref.Wr.at] at h
  cases hq:s.at key p i with
  | none=>rw[hq] at h;cases h
  | some q=>
   rw[hq] at h
   obtain ⟨i1,i2⟩:=at_keep h0 i q hq
   have h':q.step key (p.getD i 0)=some r:=h
   unfold Ref.Wr.step at h'
   split at h'
   ·rename_i h16
    split at h'
    ·have e:=Option.some.inj h'
     subst e
     exact ⟨put_keep i1 _,by show 16*(q.n+1)+1=_;omega⟩
    ·cases h'
   ·have e:=Option.some.inj h'
    subst e
    exact ⟨i1,by show 16*q.n+(q.t++[_]).length=_;simp;omega⟩
def wrOf (p:WrR) (t:SinkR):Ref.Wr:=⟨p.n,p.t,t.snk⟩
theorem Inv.writes {T:Tags} {base B M:Nat} {σ:Sig} {w:World} (h:Inv T base B M σ w) {j:Nat} {p:WrR} (hp:σ.wr[j]? = some p):
  ∃ t:SinkR,p.bx≠p.sx∧p.bx≠t.gx∧t.gx≠p.sx∧p.bm≠p.sm∧p.bm≠t.gm∧t.gm≠p.sm∧t.snk.got.size≤512*M∧t.snk.pos≤t.snk.plan.length∧t.snk.plan.length≤M ∧
   (p.e=0→p.key.size=32∧16*p.n+p.t.length≤M∧WRep p.bx p.sx t.gx p.key (wrOf p t) w∧∀ w2,Chg (fun x=>x=p.bx∨x=p.sx) w w2→WmRep p.bm p.sm t.gm p.key (wrOf p t) w2) ∧
   (w.cell? ⟨p.bx,20,none⟩=some (.int .i64 p.e)∧w.cell? ⟨p.bm,4,none⟩=some (.int .i64 p.e)) ∧
   (∀ M' r w2 w3,M≤M'→M'≤1073741824→p.key.size=32→WRep p.bx p.sx t.gx p.key r w2→Chg (fun x=>x=p.bx∨x=p.sx) w w2→WmRep p.bm p.sm t.gm p.key r w3→Chg (fun x=>x=p.bm∨x=p.sm) w2 w3→r.k.plan=t.snk.plan→r.k.got.size≤512*M'→r.k.pos≤r.k.plan.length→16*r.n+r.t.length≤M'→Done base B M' w w3) ∧
   (∀ M' (y:Snk) (fin:Int) (key text:ByteArray) (n:Nat) w2 w3,M≤M'→M'≤1073741824→fin≠0→WEnd p.bx fin w2→Blk w2 p.sx 173 (y.cells t.gx)→Chg (fun x=>x=p.bx∨x=p.sx) w w2→Blk w3 p.bm 204 (wmV p.sm key text n fin)→Blk w3 p.sm 173 (y.cells t.gm)→Chg (fun x=>x=p.bm∨x=p.sm) w2 w3→y.plan=t.snk.plan→y.got.size≤512*M'→y.pos≤y.plan.length→Done base B M' w w3):=by
 obtain ⟨b1,b2,K,t,ht,hsx,hsm⟩:=h.wr j p hp
 obtain ⟨⟨a1,a2⟩,a3,a4⟩:=h.si p.k t ht
 have KS:=h.siK p.k t ht
 have ne:∀ {x y:Nat} {c d:Nat × Nat},T x=c→T y=d→c≠d→x≠y:=fun h1 h2 hcd e=>hcd (by rw[←h1,←h2,e])
 rw[hsx,KS.cells] at a1
 rw[hsm,KS.cells] at a3
 have n1:p.bx≠p.sx:=ne b1.2 a1.2 (by simp)
 have n2:p.bx≠t.gx:=ne b1.2 a2.2 (by simp)
 have n2':t.gx≠p.sx:=ne a2.2 a1.2 (by simp)
 have n3:p.bm≠p.sm:=ne b2.2 a3.2 (by simp)
 have n4:p.bm≠t.gm:=ne b2.2 a4.2 (by simp)
 have n4':t.gm≠p.sm:=ne a4.2 a3.2 (by simp)
 have n5:p.bm≠p.bx:=ne b2.2 b1.2 (by simp)
 have n6:p.bm≠p.sx:=ne b2.2 a1.2 (by simp)
 have n7:p.sm≠p.bx:=ne a3.2 b1.2 (by simp)
 have n8:p.sm≠p.sx:=ne a3.2 a1.2 (by simp)
 have n9:t.gm≠p.bx:=ne a4.2 b1.2 (by simp)
 have n10:t.gm≠p.sx:=ne a4.2 a1.2 (by simp)
 have k1:=KS.lo
 have k2:=KS.hi
 have stays:∀ w2 w3,Chg (fun x=>x=p.bx∨x=p.sx) w w2→Chg (fun x=>x=p.bm∨x=p.sm) w2 w3→Stays T (fresh T w (9,9)) w w3 (fun c=>c=(22,p.k)∨c=(24,p.k)∨c=(40,j)∨c=(41,j)):=fun w2 w3 hC hC2=>Stays.of_chg (9,9) (hC.two hC2) (fun k _ e=>by
   rcases e with rfl | rfl | rfl | rfl
   ·simp[b1.2]
   ·simp[a1.2]
   ·simp[b2.2]
   ·simp[a3.2])
 refine ⟨t,n1,n2,n2',n3,n4,n4',KS.got,by show t.pos.toNat≤t.plan.length;omega,KS.pl,?_,⟨b1.1.cell (wr_fin (if p.e=0 then .pointer (some ⟨p.sx,0,none⟩) else .pointer none) p.key p.n p.chunk p.t.length p.e K.c16),b2.1.cell (i:=4) rfl⟩,?_,?_⟩
 ·intro he
  obtain ⟨q1,q2,q3,q4,q5,q6,q7,q8⟩:=K.ok he
  have hbx:=b1.1
  unfold WrR.xV at hbx
  rw[if_pos he,he] at hbx
  have hbm:=b2.1
  unfold WrR.mV at hbm
  rw[he,q4,q5] at hbm
  have htl:p.text.data.toList.length=p.text.size:=ba_len _
  refine ⟨q1,by omega,⟨⟨p.chunk,K.c16,q2,hbx⟩,q3,a1.1,a2.1⟩,fun w2 hC=>⟨⟨p.text.data.toList,by show _=16*p.n+p.t.length;omega,q6,?_⟩,q3,hC.blk a3.1 (fun e=>e.elim n7 n8),hC.blk a4.1 (fun e=>e.elim n9 n10)⟩⟩
  rw[show (⟨p.text.data.toList.toArray⟩:ByteArray)=p.text from ba_ext rfl]
  exact hC.blk hbm (fun e=>e.elim n5 n6)
 ·intro M' r w2 w3 hM hM2 hk hR hC hRm hC2 h1 h2 h3 h4
  obtain ⟨ch,c1,c2,c3⟩:=hR.wr
  obtain ⟨tx,d1,d2,d3⟩:=hRm.wr
  have hst:=stays w2 w3 hC hC2
  refine ⟨fresh T w (9,9),_,h.turnWr hM hM2 hp ht (y:=r.k) ⟨p.bx,p.bm,p.k,p.sx,p.sm,p.key,r.n,ch,r.t,0,p.key,⟨tx.toArray⟩,r.n⟩ rfl rfl rfl hsx.symm hsm.symm ⟨c1,fun _=>⟨hk,c2,hR.t16,rfl,rfl,by rw[two_toList];exact d2,by rw[two_size,d1],by rw[two_size,d1];exact h4⟩⟩ hst (hC2.blk c3 (fun e=>e.elim (fun e=>n5 e.symm) (fun e=>n7 e.symm))) d3 (by rw[hsx];exact hC2.blk hR.sn (fun e=>e.elim (fun e=>n6 e.symm) (fun e=>n8 e.symm))) (by rw[hsm];exact hRm.sn) h1 h2 h3,hst.below h.bsz h.old (by simp)⟩
 ·intro M' y fin key text n w2 w3 hM hM2 hf hE hS hC hB hSm hC2 h1 h2 h3
  have hst:=stays w2 w3 hC hC2
  refine ⟨fresh T w (9,9),_,h.turnWr hM hM2 hp ht (y:=y) ⟨p.bx,p.bm,p.k,p.sx,p.sm,⟨#[]⟩,0,nought 16,[],fin,key,text,n⟩ rfl rfl rfl hsx.symm hsm.symm ⟨rfl,fun q=>absurd q hf⟩ hst ?_ hB (by rw[hsx];exact hC2.blk hS (fun e=>e.elim (fun e=>n6 e.symm) (fun e=>n8 e.symm))) (by rw[hsm];exact hSm) h1 h2 h3,hst.below h.bsz h.old (by simp)⟩
  have h9:=hC2.blk hE (fun e=>e.elim (fun e=>n5 e.symm) (fun e=>n7 e.symm))
  unfold WrR.xV
  rw[if_neg hf]
  exact h9
set_option maxHeartbeats 400000 in
theorem writeFin_any (wb:Nat) (fin:Int) (p:ByteArray) (w:World) (c20:w.cell? ⟨wb,20,none⟩=some (.int .i64 fin)) (hf:fin≠0):
  Calls Tryz.prog 80 #[.pointer (some ⟨wb,0,none⟩),.string p] w fun e w'=>e = .returned (.tuple #[.int .i64 0,.int .i64 fin])∧∃ m,w'=w.drewN m:=by
 have zf:(fin != 0)=true:=by rw[bne_iff_ne];exact hf
 clear hf
 go_enter Tryz.func80,Tryz.ntmps80
 go_wp2
 go_region
 go_wp2
 refine bodyPost_ret (results_tmp2 rfl _ _ _) rfl ?_
 exact ⟨rfl,1,rfl⟩
set_option maxHeartbeats 400000 in
theorem closeFin_any (wb:Nat) (fin:Int) (w:World) (c20:w.cell? ⟨wb,20,none⟩=some (.int .i64 fin)) (hf:fin≠0):
  Calls Tryz.prog 82 #[.pointer (some ⟨wb,0,none⟩)] w fun e w'=>e = .returned (.int .i64 fin)∧∃ m,w'=w.drewN m:=by
 have zf:(fin != 0)=true:=by rw[bne_iff_ne];exact hf
 clear hf
 go_enter Tryz.func82,Tryz.ntmps82
 go_wp2
 go_ret
 exact ⟨rfl,0,rfl⟩
set_option maxHeartbeats 400000 in
theorem refWriteFin_any (wm:Nat) (fin:Int) (p:ByteArray) (w:World) (c4:w.cell? ⟨wm,4,none⟩=some (.int .i64 fin)) (hf:fin≠0):
  Calls Tryz.prog 81 #[.pointer (some ⟨wm,0,none⟩),.string p] w fun e w'=>e = .returned (.tuple #[.int .i64 0,.int .i64 fin])∧∃ m,w'=w.drewN m:=by
 have zf:(fin != 0)=true:=by rw[bne_iff_ne];exact hf
 clear hf
 go_enter Tryz.func81,Tryz.ntmps81
 go_wp2
 go_quiet (fail)
 go_wp2
 refine bodyPost_ret (results_tmp2 rfl _ _ _) rfl ?_
 exact ⟨rfl,_,rfl⟩
set_option maxHeartbeats 400000 in
theorem refCloseFin_any (wm:Nat) (fin:Int) (w:World) (c4:w.cell? ⟨wm,4,none⟩=some (.int .i64 fin)) (hf:fin≠0):
  Calls Tryz.prog 83 #[.pointer (some ⟨wm,0,none⟩)] w fun e w'=>e = .returned (.int .i64 fin)∧∃ m,w'=w.drewN m:=by
 have zf:(fin != 0)=true:=by rw[bne_iff_ne];exact hf
 clear hf
 go_enter Tryz.func83,Tryz.ntmps83
 go_wp2
 go_ret
 exact ⟨rfl,0,rfl⟩
end Go.Proofs.YtmjekklgefdolaaGreatDoor
