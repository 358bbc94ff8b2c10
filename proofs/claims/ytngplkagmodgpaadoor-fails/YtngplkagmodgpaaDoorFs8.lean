import Derived.Test.YtngplkagmodgpaaDoorRows
import Derived.Test.YtngplkagmodgpaaDoorCards
import Derived.Test.YtngplkagmodgpaaDoorTie
import Derived.ProofKit
import Derived.OpenShut
import Derived.Deep.Slices
import Derived.Deep.DeepHandedRow
import Derived.Lib.LaidTab
import Derived.SizedLaws
import Derived.Stop.LaidErr
import Derived.Carry
import Derived.ChangeSame
import Derived.Test.YtngplkagmodgpaaDoorFs7
namespace Go.Proofs.YtngplkagmodgpaaDoor
open Go.RowKit
namespace Ref
def encB (key:List UInt8) (text:List UInt8):Nat→List UInt8
 | 0=>[]
 | k+1=>encB key text k++box key k false ((text.drop (16*k)).take 16)
def full (n:Nat):Nat:=(n-1)/16
def encF (key:List UInt8) (text:List UInt8):List UInt8:=encB key text (full text.length)++box key (full text.length) true (text.drop (16*full text.length))
def file (l:List ByteArray) (s:ByteArray) (p:Nat) (text:List UInt8):List UInt8:=(head l s p).data.toList++(pdraw l s p).data.toList++encF (pkey l s p).data.toList text
end Ref
def EncP (l:List ByteArray) (b:Nat) (s:ByteArray) (p:Nat) (text:ByteArray) (w:World) (e:Ending) (w':World):Prop:=
 e = .returned (.tuple #[.string (if Ref.beginE l s p=0 then ⟨(Ref.file l s p text.data.toList).toArray⟩ else ⟨#[]⟩),.int .i64 (Ref.beginE l s p)])∧Blk w' b 54 (springCells s (Ref.beginP l s p))∧w.grownBy w' (some b)
theorem Ref.pkey_size (l:List ByteArray) (s:ByteArray) (p:Nat):(Ref.pkey l s p).size=32:=by unfold Ref.pkey;rw[ba_size,Ref.keyL_len]
theorem enc_nums (text:ByteArray) (k:Nat) (h:16*(k+1)<text.size):
  ((text.extract (16*k) text.size).extract 0 16).data.toList=(text.data.toList.drop (16*k)).take 16∧(text.extract (16*k) text.size).extract 16 (text.extract (16*k) text.size).size=text.extract (16*(k+1)) text.size:=by
 have hxs:(text.extract (16*k) text.size).size=text.size-16*k:=by rw[ByteArray.size_extract];omega
 refine ⟨?_,?_⟩
 ·rw[ext_take,sub_list,List.take_take,Nat.min_eq_left (by omega)]
 ·apply ba_ext
  rw[sub_list,hxs,sub_list,sub_list,List.drop_take,List.take_take,List.drop_drop,show 16*k+16=16*(k+1) by omega]
  congr 1
  omega
theorem wpList_bytes {ops:Array Oper} {rest:List Oper} {o:Oper} {a:Act} {w:World} {Q:Exit→Act→World→Prop} (hgd:o.guard=none) (x:Operand) (ho:o.op = .convert 9 51 x) (s:ByteArray) (hx:a.eval x = .string s) (hs:s.size≤1099511627776)
  (h:∀ cap w',cap≤9223372036854775807→s.size≤cap→Row w' w.heap.size 5 1 (.slice (some ⟨w.heap.size,0,none⟩) s.size cap) s.size (u8L s.data.toList)→Below w.heap.size w w'→wpList Tryd.prog ops Q rest (a.put o.dst (.slice (some ⟨w.heap.size,0,none⟩) s.size cap)) w'):wpList Tryd.prog ops Q (o::rest) a w:=by
 have hge:=grownCap_ge w s.size 0 5
 have hle:=grownCap_le_maxLen w s.size 0 5 (by unfold maxLen;omega)
 have hrow:=row_bytes s w _ hge hle
 have hcv:=run_bytes_of_string (P:=Tryd.prog) w 9 51 5 s Tryd.underlying9 Tryd.underlying51 Tryd.underlying5
 refine wpList_plain hgd fun K hK=>?_
 unfold Oper.wp execOp
 simp only[ho,Sem.run_bind,Sem.run_pure,Result.andThen_ok,hx,hcv]
 exact hK _ _ (h _ _ (by unfold maxLen at hle;exact hle) hge hrow ((Below.refl _ _).drew.alloc (Nat.le_refl _) _))
structure ENC (b:Nat) (s:ByteArray) (q:Nat) (w w1:World) (x y z:ByteArray) (wi:World):Prop where
 st:Blk wi w1.heap.size 58 [.string x,.string y,.string z]
 sp:Blk wi b 54 (springCells s q)
 gr:w.grownBy wi (some b)
theorem ENC.after {b:Nat} {s:ByteArray} {q:Nat} {w w1 wi wj:World} {x y z:ByteArray} (h:ENC b s q w w1 x y z wi) (hb:Below wi.heap.size wi wj):ENC b s q w w1 x y z wj:=⟨h.st.below hb h.st.lt,h.sp.below hb h.sp.lt,grown_below h.gr hb⟩
theorem ENC.grew {b:Nat} {s:ByteArray} {q:Nat} {w w1 wi wj:World} {x y z:ByteArray} {g:Nat} (h:ENC b s q w w1 x y z wi) (hg:wi.grownBy wj (some g)) (h1:w1.heap.size<g) (h2:b<g) (h3:w.heap.size≤g):ENC b s q w w1 x y z wj:=
 ⟨h.st.grown hg (fun e=>by injection e with e;omega),h.sp.grown hg (fun e=>by injection e with e;omega),grown_trans h.gr hg (fun k hk=>.inl (by injection hk with hk;omega))⟩
def strLen:Value→Nat
 | .string s=>s.size
 | _=>0
set_option maxRecDepth 100000 in
set_option maxHeartbeats 3200000 in
theorem encrypt_any (v:Value) (l:List ByteArray) (b:Nat) (s:ByteArray) (p:Nat) (text:ByteArray) (w:World) (ht:Tabs w) (hv:Strs w v l) (hvb:∀ g o n c,v = .slice (some ⟨g,o,none⟩) n c→0<l.length→g≠b) (hl:l.length≤1099511627776)
  (hb:Blk w b 54 (springCells s p)) (h2b:2≤b) (hp:p≤s.size) (hs:s.size<1125899906842624) (hx:text.size≤1099511627):
  Calls Tryd.prog 16 #[v,.pointer (some ⟨b,0,none⟩),.string text] w (EncP l b s p text w):=by
 have HBG:=hide (vbegin_any v l b s p w ht hv hvb hl hb h2b hp hs)
 have hbl:=hb.lt
 obtain ⟨ao,cp,rfl⟩:=hv.len
 clear ht hv hvb hb
 go_enter Tryd.func16,Tryd.ntmps16
 go_wp2_with fail
 refine HBG.out.mono ?_
 rintro e w1 ⟨hd,dr,ky,rfl,hval,hB1,hG1⟩
 have HB1:=hide hB1
 have HG1:=hide hG1
 have hsz1:=hG1.size
 clear HBG hB1 hG1
 by_cases hE:Ref.beginE l s p=0
 ·obtain ⟨rfl,rfl,rfl⟩:=hval hE
  obtain ⟨hz1,hz2⟩:=Ref.head_size hE
  have hz3:=Ref.pkey_size l s p
  have HIF:=hide (show (if Ref.beginE l s p=0 then (⟨(Ref.file l s p text.data.toList).toArray⟩:ByteArray) else ⟨#[]⟩)=⟨(Ref.file l s p text.data.toList).toArray⟩ from if_pos hE)
  have HE0:=hide hE
  have HFI:=hide (show Ref.file l s p text.data.toList=(Ref.head l s p).data.toList++(Ref.pdraw l s p).data.toList++Ref.encF (Ref.pkey l s p).data.toList text.data.toList from rfl)
  rw[hE]
  generalize Ref.head l s p=HDR at *
  generalize Ref.pdraw l s p=PDR at *
  generalize Ref.pkey l s p=PKY at *
  clear hval hE
  have hb12:Below w1.heap.size w1 (w1.alloc (.cells #[.string HDR,.string PDR,.string PKY] 58)):=(Below.refl _ _).alloc (Nat.le_refl _) _
  have hB2:Blk (w1.alloc (.cells #[.string HDR,.string PDR,.string PKY] 58)) w1.heap.size 58 [.string HDR,.string PDR,.string PKY]:=Blk.new rfl rfl
  have c0:=hB2.cell (i:=0) rfl
  have c1:=hB2.cell (i:=1) rfl
  have HB2:=hide hB2
  have HS2:=hide (HB1.out.below hb12 HB1.out.lt)
  have HG2:=hide (grown_below HG1.out hb12)
  have u1:¬ (9223372036854775807<HDR.size+PDR.size):=by omega
  have hhs:(HDR++PDR).size=HDR.size+PDR.size:=ba_sz _ _
  have hhl:(HDR++PDR).data.toList=HDR.data.toList++PDR.data.toList:=ba_list _ _
  have HHL:=hide hhl
  have hHPz:(HDR++PDR).size≤2000:=by omega
  clear hhs
  generalize hHP:HDR++PDR=HP at *
  obtain ⟨w2,hw2⟩:∃ x,w1.alloc (.cells #[.string HDR,.string PDR,.string PKY] 58)=x:=⟨_,rfl⟩
  rw[hw2] at HB2 HS2 HG2 c0 c1
  have hsz2:w1.heap.size<w2.heap.size:=HB2.out.lt
  have hlen:text.data.toList.length=text.size:=ba_len text
  have HLEN:=hide hlen
  obtain ⟨M,hM⟩:∃ M,Ref.full text.size=M:=⟨_,rfl⟩
  have hMd:M=(text.size-1)/16:=by rw[←hM];rfl
  have HMD:=hide hMd
  clear hMd
  have HENC:=hide (show Ref.encF PKY.data.toList text.data.toList=Ref.encB PKY.data.toList text.data.toList M++Ref.box PKY.data.toList M true (text.data.toList.drop (16*M)) by unfold Ref.encF;rw[hlen,hM])
  have hx0:text.extract 0 text.size=text:=ba_ext (by rw[ext_take,List.take_of_length_le (by rw[ba_len];exact Nat.le_refl _)])
  have HX0:=hide hx0
  clear hb12 hB2 HB1 HG1 hlen hM hx0 hhl
  go_wp2_with (refine wpList_bytes rfl (.tmp 28) rfl HP rfl (by omega) ?_;intro cap0 w3 hcap0 hcap1 hrow0 hbe0)
  have HE3:=hide (show ENC b s (Ref.beginP l s p) w w1 HDR PDR PKY w3 from ⟨HB2.out.below hbe0 HB2.out.lt,HS2.out.below hbe0 HS2.out.lt,grown_below HG2.out hbe0⟩)
  have HROW:=hide hrow0
  have HSZ3:=hide hbe0.size
  clear c0 c1 hHP hw2 u1 hrow0 hbe0 HB2 HS2 HG2
  go_loopw [2,10,11] (fun vt v vn wr=>∃ (k N g cap:Nat),k≤M∧vt = .string (text.extract (16*k) text.size)∧vn = .int .u64 (k:Nat)∧v = .slice (some ⟨g,0,none⟩) N cap∧N≤HP.size+32*k∧Row wr w2.heap.size 5 1 (.slice (some ⟨g,0,none⟩) N cap) N (u8L (HP.data.toList++Ref.encB PKY.data.toList text.data.toList k))∧ENC b s (Ref.beginP l s p) w w1 HDR PDR PKY wr∧w2.heap.size≤wr.heap.size) (fun vt _ _ _=>strLen vt)
  case atStart=>exact ⟨0,HP.size,_,_,Nat.zero_le _,by rw[HX0.out],rfl,rfl,by omega,by rw[show HP.data.toList++Ref.encB PKY.data.toList text.data.toList 0=HP.data.toList from List.append_nil _];exact HROW.out,HE3.out,HSZ3.out⟩
  case round=>
   clear HROW HE3 HX0 HSZ3 hcap0 hcap1
   obtain ⟨k,N,g,cap,hk,rfl,rfl,rfl,hN,hr,hEN,hsz⟩:=hrel
   have hxs:(text.extract (16*k) text.size).size=text.size-16*k:=by rw[ByteArray.size_extract];omega
   have HEN:=hide hEN
   have HR:=hide hr
   obtain ⟨ao9,cap9,e9,hd1,hd2⟩:=Row.anyN hr
   injection e9 with e9a e9b e9c
   subst e9c
   clear e9a e9b ao9
   unfold maxLen at hd2
   have c2:=hEN.st.cell (i:=2) rfl
   have hstl:=hEN.st.lt
   clear hr hEN
   by_cases hlt:k<M
   ·have hbig:16*(k+1)<text.size:=by have:=HMD.out;omega
    have j1:(16:Int)<((text.extract (16*k) text.size).size:Int):=by omega
    have j2:(16:Int)≤((text.extract (16*k) text.size).size:Int):=by omega
    have j3:16≤(text.extract (16*k) text.size).size:=by omega
    obtain ⟨hch,hnxt⟩:=enc_nums text k hbig
    have HSC:=hide (fun w'=>sealChunk_any PKY k false ((text.extract (16*k) text.size).extract 0 16) w' hz3 (by omega) (by rw[ByteArray.size_extract];omega))
    rw[hch] at HSC
    have hbs:=Ref.box_size PKY.data.toList k false ((text.data.toList.drop (16*k)).take 16)
    have hbt:((text.data.toList.drop (16*k)).take 16).length≤16:=by rw[List.length_take];omega
    have HEB:=hide (show Ref.encB PKY.data.toList text.data.toList (k+1)=Ref.encB PKY.data.toList text.data.toList k++Ref.box PKY.data.toList k false ((text.data.toList.drop (16*k)).take 16) from rfl)
    generalize hBX:Ref.box PKY.data.toList k false ((text.data.toList.drop (16*k)).take 16)=BX at *
    have hbz:(⟨BX.toArray⟩:ByteArray).size=BX.length:=ba_size BX
    have HBZ:=hide hbz
    have hbx2:(⟨BX.toArray⟩:ByteArray).size≤32:=by omega
    have hbl2:(⟨BX.toArray⟩:ByteArray).data.toList=BX:=rfl
    have HBL:=hide hbl2
    generalize (⟨BX.toArray⟩:ByteArray)=BB at *
    have HNXT:=hide hnxt
    have HXS:=hide hxs
    generalize hTX:text.extract (16*k) text.size=TX at *
    have hb0:Below wr.heap.size wr wr.drew:=⟨rfl,rfl,rfl,Nat.le_refl _,fun _ _=>rfl⟩
    have HB0:=hide hb0
    have t1:((k:Int)+1)%18446744073709551616=(k:Int)+1:=by omega
    have t1':(k:Int)+1=((k+1:Nat):Int):=by omega
    have T1:=hide t1'
    clear t1'
    have hN2:N+BB.size≤140737488355328:=by omega
    have HN2:=hide (show N+BB.size≤HP.size+32*(k+1) by omega)
    have HLT:=hide hlt
    clear hch hnxt hbs hbt hbz hbl2 hBX hb0 hxs hlt hbig
    go_wp2
    go_region_held3 (fun w'=>w'.cell? ⟨w1.heap.size,2,none⟩=some (.string PKY)) (first | assumption | (exact (hb2.cell hstl).trans (by assumption))) ((go_at_call 33;refine (HSC.out _).mono ?_;rintro e w4 ⟨rfl,hb2⟩))
    rename_i hH
    clear hH
    have hbd:Below wr.heap.size wr w4:=HB0.out.trans hb2
    have HEN4:=hide (HEN.out.after hbd)
    have HR4:=hide (Row.after HR.out hbd)
    have hsz4:w2.heap.size≤w4.heap.size:=Nat.le_trans hsz hbd.size
    clear hb2 hbd HEN HR HSC HB0 c2
    go_wp2_with (at_builtin;refine wpList_append_text rfl (.tmp 45) (.tmp 46) rfl w2.heap.size g cap N _ rfl HR4.out BB rfl hN2 hsz4 ?_;intro g5 cap5 w5 hr5 hg5)
    have hgg:w2.heap.size≤g:=(HR4.out.lt g rfl).1
    go_roundw
    case rel=>
     have h1:=HLT.out
     refine ⟨k+1,N+BB.size,g5,cap5,by omega,by rw[HNXT.out],by rw[T1.out],rfl,HN2.out,?_,HEN4.out.grew hg5 (by omega) (by omega) (by omega),Nat.le_trans hsz4 hg5.size⟩
     rw[HEB.out,←List.append_assoc,←HBL.out]
     exact hr5
    case measure=>
     have h1:=HXS.out
     have h2:=HLT.out
     have h3:=HMD.out
     simp only[strLen,HNXT.out,ByteArray.size_extract]
     omega
   ·obtain rfl:k=M:=by omega
    have HSC:=hide (fun w'=>sealChunk_any PKY k true (text.extract (16*k) text.size) w' hz3 (by have:=HMD.out;omega) (by rw[ByteArray.size_extract];omega))
    have hch:(text.extract (16*k) text.size).data.toList=text.data.toList.drop (16*k):=by rw[sub_list,List.take_of_length_le (by rw[List.length_drop,HLEN.out];exact Nat.le_refl _)]
    rw[hch] at HSC
    have hbs:=Ref.box_size PKY.data.toList k true (text.data.toList.drop (16*k))
    have hbt:(text.data.toList.drop (16*k)).length≤16:=by rw[List.length_drop,HLEN.out];have:=HMD.out;omega
    have j1:¬ (16:Int)<((text.extract (16*k) text.size).size:Int):=by have:=HMD.out;omega
    generalize hBX:Ref.box PKY.data.toList k true (text.data.toList.drop (16*k))=BX at *
    have hbz:(⟨BX.toArray⟩:ByteArray).size=BX.length:=ba_size BX
    have hbl2:(⟨BX.toArray⟩:ByteArray).data.toList=BX:=rfl
    have HBL:=hide hbl2
    have hN2:N+(⟨BX.toArray⟩:ByteArray).size≤140737488355328:=by have:=HMD.out;omega
    generalize (⟨BX.toArray⟩:ByteArray)=BB at *
    generalize text.extract (16*k) text.size=TX at *
    have HSA:=hide (fun (w':World) (v':Value) (n':Nat) (l':List UInt8) (h:Row w' w2.heap.size 5 1 v' n' (u8L l'))=>Row.strAny h)
    have HFIN:=hide (show Ref.file l s p text.data.toList=HP.data.toList++Ref.encB PKY.data.toList text.data.toList k++BX by rw[HFI.out,HENC.out,HHL.out];simp only[List.append_assoc])
    clear hch hbs hbt hbz hbl2 hBX hxs hlt hk HFI HENC HHL
    go_wp2_with fail
    refine (HSC.out _).mono ?_
    rintro e w4 ⟨rfl,hb2⟩
    have HEN4:=hide (HEN.out.after hb2)
    have HR4:=hide (Row.after HR.out hb2)
    have hsz4:w2.heap.size≤w4.heap.size:=Nat.le_trans hsz hb2.size
    clear hb2 HEN HR HSC c2
    go_wp2_with (at_builtin;refine wpList_append_text rfl (.tmp 63) (.tmp 64) rfl w2.heap.size g cap N _ rfl HR4.out BB rfl hN2 hsz4 ?_;intro g5 cap5 w5 hr5 hg5;rw[HBL.out,←HFIN.out] at hr5;obtain ⟨ao2,cap2,e2,hd3,hd4,hcv⟩:=HSA.out _ _ _ _ hr5;clear e2)
    have hgg:w2.heap.size≤g:=(HR4.out.lt g rfl).1
    refine bodyPost_ret (results_tmp2 rfl _ _ _) rfl ?_
    have HEN5:=HEN4.out.grew hg5 (by omega) (by omega) (by omega)
    exact ⟨by rw[HIF.out,HE0.out];rfl,HEN5.sp,HEN5.gr⟩
 ·have HE:=hide hE
  have zE:(Ref.beginE l s p != 0)=true:=by rw[bne_iff_ne];exact hE
  have hb12:Below w1.heap.size w1 (w1.alloc (.cells #[.string hd,.string dr,.string ky] 58)):=(Below.refl _ _).alloc (Nat.le_refl _) _
  have HS2:=hide (HB1.out.below hb12 HB1.out.lt)
  have HG2:=hide (grown_below HG1.out hb12)
  have HIF:=hide (show (if Ref.beginE l s p=0 then (⟨(Ref.file l s p text.data.toList).toArray⟩:ByteArray) else ⟨#[]⟩)=⟨#[]⟩ from if_neg hE)
  clear hval hE hb12 HB1 HG1
  go_wp2
  refine bodyPost_ret (results_tmp2 rfl _ _ _) rfl ?_
  exact ⟨by rw[HIF.out];rfl,HS2.out,HG2.out⟩
namespace Ref
theorem full_step (j:Nat):(j-16*full j=16→full (j+1)=full j+1∧j=16*full j+16)∧(j-16*full j<16→full (j+1)=full j)∧16*full j≤j∧j≤16*full j+16:=by
 unfold full
 omega
structure Good (key X hd:List UInt8) (j:Nat) (s:Wr):Prop where
 n:s.n=full j
 t:s.t=(X.take j).drop (16*full j)
 got:s.k.got.data.toList=hd++encB key X (full j)
theorem Good.tlen {key X hd:List UInt8} {j:Nat} {s:Wr} (h:Good key X hd j s) (hj:j≤X.length):s.t.length=j-16*full j:=by
 rw[h.t,List.length_drop,List.length_take]
 omega
theorem put_got {k:Snk} {t:ByteArray} (h:k.ok t=true):(k.put t).got.data.toList=k.got.data.toList++t.data.toList:=by
 rw[Snk.put_ok h,ba_list]
theorem Good.step {key X hd:List UInt8} {j:Nat} {s r:Wr} (h:Good key X hd j s) (hj:j<X.length) (hr:s.step key (X.getD j 0)=some r):Good key X hd (j+1) r:=by
 have hx:X.getD j 0=X[j]:=by rw[List.getD_eq_getElem?_getD,List.getElem?_eq_getElem hj];rfl
 have htl:=h.tlen (Nat.le_of_lt hj)
 obtain ⟨f1,f2,f3,f4⟩:=full_step j
 have htk:X.take (j+1)=X.take j++[X[j]]:=List.take_succ_eq_append_getElem hj
 unfold Wr.step at hr
 rw[htl] at hr
 split at hr
 ·rename_i h16
  obtain ⟨g1,g2⟩:=f1 h16
  split at hr
  ·rename_i hok
   have e:=Option.some.inj hr
   subst e
   refine ⟨by show s.n+1=_;rw[h.n,g1],?_,?_⟩
   ·show [X.getD j 0]=_
    rw[hx,g1,htk,List.drop_append_of_le_length (by rw[List.length_take];omega),List.drop_eq_nil_of_le (by rw[List.length_take];omega)]
    rfl
   ·show (s.k.put (s.box key false)).got.data.toList=_
    rw[put_got hok,h.got,g1,encB,List.append_assoc]
    congr 2
    show box key s.n false s.t=_
    rw[h.n,h.t]
    congr 1
    rw[List.drop_take,show j-16*full j=16 by omega]
  ·cases hr
 ·rename_i h16
  have g1:=f2 (by omega)
  have e:=Option.some.inj hr
  subst e
  refine ⟨by show s.n=_;rw[h.n,g1],?_,by show s.k.got.data.toList=_;rw[h.got,g1]⟩
  show s.t++[X.getD j 0]=_
  rw[hx,g1,htk,h.t,List.drop_append_of_le_length (by rw[List.length_take];omega)]
theorem Good.at {key X hd:List UInt8} {j:Nat} {s:Wr} (h:Good key X hd j s) (p:List UInt8) (hp:∀ i,i<p.length→p.getD i 0=X.getD (j+i) 0) (hj:j+p.length≤X.length):∀ (i:Nat) (r:Wr),i≤p.length→s.at key p i=some r→Good key X hd (j+i) r
 | 0,r,_,hr=>by
  have e:s=r:=Option.some.inj hr
  subst e
  exact h
 | i+1,r,hi,hr=>by
  rw[Wr.at] at hr
  cases hq:s.at key p i with
  | none=>rw[hq] at hr;cases hr
  | some q=>
   rw[hq] at hr
   have ih:=Good.at h p hp hj i q (by omega) hq
   have hr':q.step key (p.getD i 0)=some r:=hr
   rw[hp i (by omega)] at hr'
   exact ih.step (by omega) hr'
theorem put_bad {k:Snk} {t:ByteArray} (h:k.ok t=false) (h0:0<t.size):∃ m,m<t.size∧(k.put t).got.data.toList=k.got.data.toList++t.data.toList.take m:=by
 have hne:sinkN k.plan k.pos t.size≠some t.size:=fun e=>by
  unfold Snk.ok at h
  rw[e] at h
  simp at h
 refine ⟨k.takes t,?_,by show (k.got++t.extract 0 _).data.toList=_;rw[ba_list,ext_take]⟩
 unfold Snk.takes
 cases hs:sinkN k.plan k.pos t.size with
 | none=>exact h0
 | some m=>
  have hle:=sinkN_le hs
  show m<t.size
  rcases Nat.lt_or_ge m t.size with h1 | h1
  ·exact h1
  ·exact absurd (by rw[hs,Nat.le_antisymm hle h1]) hne
theorem encB_pre (key X:List UInt8) (a:Nat):∀ d,∃ r,encB key X (a+d)=encB key X a++r
 | 0=>⟨[],by rw[List.append_nil];rfl⟩
 | d+1=>by
  obtain ⟨r,hr⟩:=encB_pre key X a d
  exact ⟨r++box key (a+d) false ((X.drop (16*(a+d))).take 16),by rw[←Nat.add_assoc,encB,hr,List.append_assoc]⟩
theorem box_pos {key:List UInt8} (hk:key.length=32) (n:Nat) (last:Bool) (t:List UInt8):0<(box key n last t).length:=by
 unfold box
 rw[if_pos hk,Box.sealed_len]
 omega
theorem Good.last {key X hd:List UInt8} {s:Wr} (h:Good key X hd X.length s):s.box key true=⟨(box key (full X.length) true (X.drop (16*full X.length))).toArray⟩:=by
 unfold Wr.box
 rw[h.n,h.t,List.take_of_length_le (Nat.le_refl _)]
theorem Good.closed {key X hd:List UInt8} {s:Wr} (h:Good key X hd X.length s) (hok:s.k.ok (s.box key true)=true):(s.k.put (s.box key true)).got.data.toList=hd++encF key X:=by
 rw[put_got hok,h.got,h.last,List.append_assoc]
 rfl
theorem Good.closedBad {key X hd:List UInt8} {s:Wr} (hk:key.length=32) (h:Good key X hd X.length s) (hok:s.k.ok (s.box key true)=false):∃ r,r≠[]∧hd++encF key X=(s.k.put (s.box key true)).got.data.toList++r:=by
 have hb:=box_pos hk (full X.length) true (X.drop (16*full X.length))
 obtain ⟨m,hm,hg⟩:=put_bad hok (by rw[h.last,ba_size];exact hb)
 rw[h.last,ba_size] at hm
 refine ⟨(box key (full X.length) true (X.drop (16*full X.length))).drop m,fun e=>?_,?_⟩
 ·have:=congrArg List.length e
  rw[List.length_drop] at this
  simp at this
  omega
 ·rw[hg,h.got,h.last]
  show _=_++encB key X _++(box key _ true _).take m++_
  unfold encF
  rw[List.append_assoc,List.append_assoc,List.take_append_drop]
theorem Good.sentBad {key X hd:List UInt8} {j:Nat} {s:Wr} (hk:key.length=32) (h:Good key X hd j s) (hj:j<X.length) (h16:s.t.length=16) (hok:s.k.ok (s.box key false)=false):∃ r,r≠[]∧hd++encF key X=(s.k.put (s.box key false)).got.data.toList++r:=by
 have htl:=h.tlen (Nat.le_of_lt hj)
 obtain ⟨f1,f2,f3,f4⟩:=full_step j
 obtain ⟨g1,g2⟩:=f1 (by omega)
 have hbx:s.box key false=⟨(box key (full j) false ((X.drop (16*full j)).take 16)).toArray⟩:=by
  unfold Wr.box
  rw[h.n,h.t,List.drop_take,show j-16*full j=16 by omega]
 have hb:=box_pos hk (full j) false ((X.drop (16*full j)).take 16)
 obtain ⟨m,hm,hg⟩:=put_bad hok (by rw[hbx,ba_size];exact hb)
 rw[hbx,ba_size] at hm
 have hfl:full j+1≤full X.length:=by unfold full at g2 ⊢;omega
 obtain ⟨d,hd'⟩:∃ d,full X.length=full j+1+d:=⟨full X.length-(full j+1),by omega⟩
 obtain ⟨r,hr⟩:=encB_pre key X (full j+1) d
 refine ⟨(box key (full j) false ((X.drop (16*full j)).take 16)).drop m++r++box key (full X.length) true (X.drop (16*full X.length)),fun e=>?_,?_⟩
 ·have:=congrArg List.length e
  rw[List.length_append,List.length_append,List.length_drop] at this
  simp at this
  omega
 ·rw[hg,h.got,hbx]
  show _=hd++encB key X _++(box key _ false _).take m++_
  unfold encF
  rw[hd',hr,encB,←hd']
  simp only[List.append_assoc]
  rw[←List.append_assoc (List.take m _),List.take_append_drop]
end Ref
theorem set_take {xs cur:List Value} {m j:Nat} {u:Value} (h:cur.take m=xs):(cur.set j u).take m=xs.set j u:=by rw[List.take_set,h]
theorem Row.set1 {w:World} {base g cap n i:Nat} {xs:List Value} (h:Row w base 5 1 (.slice (some ⟨g,0,none⟩) n cap) n xs) (u:Value):Row (w.setCell ⟨g,i,none⟩ u) base 5 1 (.slice (some ⟨g,0,none⟩) n cap) n (xs.set i u):=by
 obtain ⟨q1,q2⟩:=h
 refine ⟨by rw[List.length_set];exact q1,?_⟩
 rcases q2 with ⟨hn,_⟩ | ⟨g',cap',cur,hv',hb',hB,hc,hm,hcl,htk⟩
 ·cases hn
 ·injection hv' with hv1 hv2 hv3
  injection hv1 with hv1
  injection hv1 with hv1 _ _
  subst hv1
  subst hv3
  exact .inr ⟨g,cap,cur.set i u,rfl,hb',hB.setCell_same _ _,hc,hm,by rw[List.length_set];exact hcl,set_take htk⟩
theorem make_cap (n:Nat) (hn:n≤1099511627776) (w:World):(Instr.makeSlice 51 (.int .i64 0) (.int .i64 (n:Nat))).run Tryd.prog w = .ok (.slice (some ⟨w.heap.size,0,none⟩) 0 n) (w.alloc (.cells (u8L (List.replicate n 0)).toArray 5)):=by
 obtain ⟨i0,hi,hz0,hz1,hz2⟩:=info_parts infoU8
 have h:=run_make (P:=Tryd.prog) w 51 5 i0 (.int .u8 0) Tryd.underlying51 hi hz0 .i64 .i64 0 (n:Int) (by omega) (by omega) (by rw[hz2];omega) (by omega)
 rw[hz1] at h
 simp only[Int.toNat_natCast] at h
 rw[bytes_made] at h
 exact h
set_option maxHeartbeats 400000 in
theorem kpick_any (c:Int) (n:Nat) (w:World) (h1 : -9223372036854775808≤c) (h2:c≤9223372036854775807) (hn:0<n) (hn2:n≤1099511627776):
  Calls Tryd.prog 34 #[.int .i64 c,.int .i64 (n:Nat)] w fun e w'=>e = .returned (.int .i64 (pickN c n:Nat))∧w'=w:=by
 have z1:((n:Int)==0)=false:=beq_eq_false_iff_ne.2 (by omega)
 by_cases hc:c<0
 ·have hk:(-(c+1)).tmod (n:Int)=((((-(c+1)).toNat%n:Nat)):Int):=by
   rw[Int.tmod_eq_emod_of_nonneg (by omega),Int.natCast_emod,Int.toNat_of_nonneg (by omega)]
  have HK:=hide hk
  clear hk
  go_enter Tryd.func34,Tryd.ntmps34
  go_wp2
  go_ret
  exact ⟨ret_int (by rw[←Int.neg_tmod,HK.out,pickN,if_pos (by omega)]),rfl⟩
 ·have hk:c.tmod (n:Int)=(((c.toNat%n:Nat)):Int):=by
   rw[Int.tmod_eq_emod_of_nonneg (by omega),Int.natCast_emod,Int.toNat_of_nonneg (by omega)]
  have he:c%(n:Int)=((c.toNat%n:Nat):Int):=by rw[Int.natCast_emod,Int.toNat_of_nonneg (by omega)]
  have HK:=hide hk
  have HE:=hide he
  clear hk he
  go_enter Tryd.func34,Tryd.ntmps34
  go_wp2
  go_ret
  exact ⟨ret_int (by rw[pickN,if_neg (by omega)];first | exact HE.out | exact HK.out),rfl⟩
theorem wild_any (s:ByteArray) (w:World) (hs:s.size≤1099511627776):
  Calls Tryd.prog 17 #[.string s] w fun e w'=>∃ l:List Int,l.length=s.size∧e = .returned (.slice (some ⟨w.heap.size,0,none⟩) s.size s.size)∧Blk w' w.heap.size 3 (intV l)∧Below w.heap.size w w':=by
 have hmk:=fun w=>make_ints s.size hs w
 go_enter Tryd.func17,Tryd.ntmps17
 go_wp2
 clear hmk
 go_loopw [4] (fun i wr=>∃ (k:Nat) (l:List Int),k≤s.size∧i = .int .i64 k∧l.length=s.size∧Blk wr w.heap.size 3 (intV l)∧Below w.heap.size w wr) (fun i _=>s.size-(intOf i).toNat)
 case atStart=>exact ⟨0,List.replicate s.size 0,by omega,rfl,by simp,Blk.new rfl rfl,(Below.refl _ _).alloc (Nat.le_refl _) _⟩
 case round=>
  obtain ⟨k,l,hk,rfl,hl,hB,hbe⟩:=hrel
  by_cases hlt:k<s.size
  ·obtain ⟨x0,hx0⟩:∃ x,(intV l)[k]? = some (.int .i64 x):=⟨_,intV_at l k (by omega)⟩
   have c0:=hB.cell hx0
   clear hx0
   have f0:=hB.frozen k
   have hXl:s[k].toNat<256:=UInt8.toNat_lt _
   obtain ⟨X,hX⟩:∃ X,s[k].toNat=X:=⟨_,rfl⟩
   rw[hX] at hXl
   have tw:wrap64 (X:Int)=(X:Int):=IntWalk.wrap64_in _ (by omega)
   have HL:=hide hl
   clear hl
   rcases Nat.lt_trichotomy X 127 with h | h | h
   ·have t1:((X:Int)==127)=false:=beq_eq_false_iff_ne.2 (by omega)
    have t2:¬ (127:Int)<(X:Int):=by omega
    go_wp2
    go_roundw
    case rel=>
     obtain ⟨l1,h1,h2⟩:=plan_one (k:=k) HL.out hB (X:Int)
     exact ⟨k+1,l1,by omega,by go_num,h1,h2,hbe.setCell (by simp) _⟩
    case measure=>simp[intOf];omega
   ·subst h
    go_wp2
    go_roundw
    case rel=>
     obtain ⟨l1,h1,h2⟩:=plan_one (k:=k) HL.out hB 127
     obtain ⟨l2,h3,h4⟩:=plan_one (k:=k) h1 h2 1099511627776
     exact ⟨k+1,l2,by omega,by go_num,h3,h4,(hbe.setCell (by simp) _).setCell (by simp) _⟩
    case measure=>simp[intOf];omega
   ·have t1:((X:Int)==127)=false:=beq_eq_false_iff_ne.2 (by omega)
    have t2:(127:Int)<(X:Int):=by omega
    have t3:(X:Int)<256:=by omega
    go_wp2
    go_roundw
    case rel=>
     obtain ⟨l1,h1,h2⟩:=plan_one (k:=k) HL.out hB (X:Int)
     obtain ⟨l2,h3,h4⟩:=plan_one (k:=k) h1 h2 ((X:Int)-256)
     exact ⟨k+1,l2,by omega,by go_num,h3,h4,(hbe.setCell (by simp) _).setCell (by simp) _⟩
    case measure=>simp[intOf];omega
  ·go_wp2
   go_ret
   exact ⟨l,hl,rfl,hB,hbe⟩
def Upto40 (w:World) (e:Ending) (w':World):Prop:=∃ n:Nat,n≤40∧e = .returned (.int .i64 (n:Nat))∧w'=w
theorem piece_b (q k:Nat) (hq:q<37) (hk:k≤536870912):q*(k+1)≤19864223781:=Nat.le_trans (Nat.mul_le_mul (Nat.le_of_lt hq) (Nat.succ_le_succ hk)) (by decide)
theorem piece_d (k:Nat) (hk:k≤536870912):7*k*k≤2017612633061982208:=Nat.le_trans (Nat.mul_le_mul (Nat.mul_le_mul_left 7 hk) hk) (by decide)
theorem piece_nums (q k:Nat) (hq:q<37) (hk:k≤536870912):∃ a b c d s r:Nat,r≤40∧(k:Int)+1=(a:Int)∧(q:Int)*(a:Int)=(b:Int)∧7*(k:Int)=(c:Int)∧(c:Int)*(k:Int)=(d:Int)∧(s:Int).tmod 41=(r:Int)∧(b:Int)+(d:Int)=(s:Int)∧a≤536870913∧b≤19864223781∧c≤3758096384∧d≤2017612633061982208∧s≤2017612652926205989:=by
 have hb:=piece_b q k hq hk
 have hd:=piece_d k hk
 refine ⟨k+1,q*(k+1),7*k,7*k*k,q*(k+1)+7*k*k,(q*(k+1)+7*k*k)%41,Nat.le_of_lt_succ (Nat.mod_lt _ (by decide)),by rw[Int.natCast_add];rfl,by rw[Int.natCast_mul],by rw[Int.natCast_mul];rfl,by rw[←Int.natCast_mul],?_,by rw[←Int.natCast_add],Nat.succ_le_succ hk,hb,Nat.mul_le_mul_left 7 hk,hd,Nat.add_le_add hb hd⟩
 rw[Int.tmod_eq_emod_of_nonneg (Int.natCast_nonneg _)]
 exact (Int.natCast_emod _ 41).symm
set_option maxHeartbeats 800000 in
theorem begins_any (a b:ByteArray) (w:World) (r:List UInt8) (h:b.data.toList=a.data.toList++r):
  Calls Tryd.prog 18 #[.string a,.string b] w fun e w'=>e = .returned (.bool true)∧w'=w:=by
 have hl:a.size≤b.size:=by rw[←ba_len a,←ba_len b,h,List.length_append];omega
 have he:b.extract 0 a.size=a:=ba_ext (by rw[ext_take,h,List.take_append_of_le_length (by rw[ba_len];exact Nat.le_refl _),List.take_of_length_le (by rw[ba_len];exact Nat.le_refl _)])
 have j1:(a.size:Int)≤(b.size:Int):=by omega
 clear h
 go_enter Tryd.func18,Tryd.ntmps18
 go_wp2
 go_ret
 exact ⟨rfl,rfl⟩
theorem wrap64_nat {x:Int} {n:Nat} (h:x=(n:Int)) (hn:n≤9223372036854775807):wrap64 x=(n:Int):=by
 rw[h]
 exact IntWalk.wrap64_in _ (by omega)
theorem piece_wraps (q k:Nat) (hq:q<37) (hk:k≤536870912):∃ a b c d s r:Nat,r≤40∧wrap64 ((k:Int)+1)=(a:Int)∧wrap64 ((q:Int)*(a:Int))=(b:Int)∧wrap64 (7*(k:Int))=(c:Int)∧wrap64 ((c:Int)*(k:Int))=(d:Int)∧wrap64 ((b:Int)+(d:Int))=(s:Int)∧(s:Int).tmod 41=(r:Int)∧(s:Int)%41=(r:Int)∧wrap64 (r:Int)=(r:Int):=by
 obtain ⟨a,b,c,d,s,r,hr,e1,e2,e3,e4,e5,e6,ba,bb,bc,bd,bs⟩:=piece_nums q k hq hk
 refine ⟨a,b,c,d,s,r,hr,wrap64_nat e1 (Nat.le_trans ba (by decide)),wrap64_nat e2 (Nat.le_trans bb (by decide)),wrap64_nat e3 (Nat.le_trans bc (by decide)),wrap64_nat e4 (Nat.le_trans bd (by decide)),wrap64_nat e6 (Nat.le_trans bs (by decide)),e5,?_,wrap64_nat rfl (Nat.le_trans hr (by decide))⟩
 rw[←Int.tmod_eq_emod_of_nonneg (Int.natCast_nonneg _)]
 exact e5
set_option maxHeartbeats 400000 in
theorem piece_any (turn:Int) (k:Nat) (w:World) (h1 : -9223372036854775808≤turn) (h2:turn≤9223372036854775807) (hk:k≤536870912):
  Calls Tryd.prog 19 #[.int .i64 turn,.int .i64 (k:Nat)] w (Upto40 w):=by
 have HP:Hid (∀ w,Calls Tryd.prog 34 #[.int .i64 turn,.int .i64 ((37:Nat):Int)] w fun e w'=>e = .returned (.int .i64 (pickN turn 37:Nat))∧w'=w):=hide (fun w=>kpick_any turn 37 w h1 h2 (by decide) (by decide))
 obtain ⟨a,b,c,d,s,r,hr,t1,t2,t3,t4,t5,t6,t8,t7⟩:=piece_wraps (pickN turn 37) k (pickN_lt turn 37 (by decide)) hk
 generalize pickN turn 37=q at *
 have HR:=hide hr
 clear hr hk h1 h2
 go_enter Tryd.func19,Tryd.ntmps19
 go_wp2_with fail
 refine (HP.out _).mono ?_
 rintro e w1 ⟨rfl,rfl⟩
 clear HP
 go_wp2
 go_ret
 exact ⟨r,HR.out,rfl,rfl⟩
theorem u8_of (c:Int):∃ X:UInt8,c%256=((X.toNat:Nat):Int):=by
 have h0:0≤c%256:=Int.emod_nonneg _ (by decide)
 have h1:c%256<256:=Int.emod_lt_of_pos _ (by decide)
 refine ⟨UInt8.ofNat (c%256).toNat,?_⟩
 simp
 omega
theorem u8L_set (l:List UInt8) (i:Nat) (x:UInt8):u8L (l.set i x)=(u8L l).set i (.int .u8 ((x.toNat:Nat):Int)):=by
 unfold u8L
 rw[List.map_set]
def Text (n:Nat) (w:World) (e:Ending) (w':World):Prop:=∃ m:ByteArray,m.size=n∧e = .returned (.string m)∧Below w.heap.size w w'
set_option maxRecDepth 100000 in
set_option maxHeartbeats 800000 in
theorem master_any (c:Int) (w:World):Calls Tryd.prog 22 #[.int .i64 c] w (Text 32 w):=by
 have hmk:(Instr.makeSlice 51 (.int .i64 32) (.int .i64 32)).run Tryd.prog w = .ok (.slice (some ⟨w.heap.size,0,none⟩) 32 32) (w.alloc (.cells (u8L (List.replicate 32 0)).toArray 5)):=make_bytes 32 (by decide) w
 have hB:Blk (w.alloc (.cells (u8L (List.replicate 32 0)).toArray 5)) w.heap.size 5 (u8L (List.replicate 32 0)):=Blk.new rfl rfl
 have hbe:Below w.heap.size w (w.alloc (.cells (u8L (List.replicate 32 0)).toArray 5)):=(Below.refl _ _).alloc (Nat.le_refl _) _
 obtain ⟨w1,hw1⟩:∃ x,w.alloc (.cells (u8L (List.replicate 32 0)).toArray 5)=x:=⟨_,rfl⟩
 rw[hw1] at hmk hB hbe
 have c0:w1.cell? ⟨w.heap.size,0,none⟩=some (.int .u8 0):=hB.cell (i:=0) rfl
 have c31:w1.cell? ⟨w.heap.size,31,none⟩=some (.int .u8 0):=hB.cell (i:=31) rfl
 have f:=hB.frozen
 obtain ⟨X,hX⟩:=u8_of c
 have hR:Row ((w1.setCell ⟨w.heap.size,0,none⟩ (.int .u8 (c%256))).setCell ⟨w.heap.size,31,none⟩ (.int .u8 7)) w.heap.size 5 1 (.slice (some ⟨w.heap.size,0,none⟩) 32 32) 32 (u8L (((List.replicate 32 0).set 0 X).set 31 7)):=by
  rw[u8L_set,u8L_set,←hX]
  exact Row.set1 (Row.set1 (Row.newB hB (Nat.le_refl _) (by decide)) _) _
 obtain ⟨ao,cap,h1,h2,h3,hcv⟩:=Row.strAny hR
 have HE:=hide ((hbe.setCell (p:=⟨w.heap.size,0,none⟩) (Nat.le_refl _) (.int .u8 (c%256))).setCell (p:=⟨w.heap.size,31,none⟩) (Nat.le_refl _) (.int .u8 7))
 clear hw1 hB hR h1 h2 h3 hX hbe
 go_enter Tryd.func22,Tryd.ntmps22
 go_wp2
 go_ret
 exact ⟨_,by rw[two_size];simp,rfl,HE.out⟩
def Masters (n:Nat) (w:World) (e:Ending) (w':World):Prop:=∃ v,e = .returned v∧∃ l:List ByteArray,Row w' w.heap.size 9 1 v l.length (strV l)∧(n=1→l.length=1)∧1≤l.length∧l.length≤3∧(∀ m ∈ l,m.size=32)∧Below w.heap.size w w'
theorem all_app {l:List ByteArray} {m:ByteArray} (h:∀ x ∈ l,x.size=32) (hm:m.size=32):∀ x ∈ l++[m],x.size=32:=by
 intro x hx
 rcases List.mem_append.1 hx with h1 | h1
 ·exact h x h1
 ·rw[List.mem_singleton.1 h1];exact hm
set_option maxRecDepth 100000 in
set_option maxHeartbeats 1600000 in
theorem masters_any (t:ByteArray) (w:World) (ht:t.size≤9223372036854775807):Calls Tryd.prog 7 #[.string t] w (Masters t.size w):=by
 go_enter Tryd.func7,Tryd.ntmps7
 go_wp2
 go_loopw [3,4] (fun v vi wr=>∃ (k:Nat) (l:List ByteArray),k≤3∧k≤t.size∧vi = .int .i64 k∧l.length=k∧(∀ m ∈ l,m.size=32)∧Row wr w.heap.size 9 1 v k (strV l)∧Below w.heap.size w wr) (fun _ i _=>3-(intOf i).toNat)
 case atStart=>exact ⟨0,[],by omega,by omega,rfl,rfl,(fun m hm=>by cases hm),Row.nil _ _ _ _,Below.refl _ _⟩
 case round=>
  obtain ⟨k,l,hk3,hkt,rfl,hl,hm,hr,hbe⟩:=hrel
  have HL:=hide hl
  have HM:=hide hm
  have HR:=hide hr
  have HBE:=hide hbe
  obtain ⟨ao,cap,rfl,hd1,hd2⟩:=Row.anyN hr
  unfold maxLen at hd2
  clear hl hm hr hbe
  by_cases hlt:k<t.size∧k<3
  ·obtain ⟨h1,h2⟩:=hlt
   have j1:(k:Int)<(t.size:Int):=by omega
   have j2:(k:Int)<3:=by omega
   have hXl:t[k].toNat<256:=UInt8.toNat_lt _
   obtain ⟨X,hX⟩:∃ X,t[k].toNat=X:=⟨_,rfl⟩
   rw[hX] at hXl
   have tw:wrap64 (X:Int)=(X:Int):=IntWalk.wrap64_in _ (by omega)
   have H2:=hide h2
   go_wp2_with fail
   refine (master_any _ _).mono ?_
   rintro e w2 ⟨m,hms,rfl,hb2⟩
   have HMS:=hide hms
   have HR2:=hide (Row.after HR.out hb2)
   have HB2:=hide (HBE.out.trans (hb2.mono HBE.out.size))
   have hsz2:=HB2.out.size
   clear hb2 hms HR
   go_wp2_with (at_builtin;refine wpList_append_strB rfl (.tmp 22) (.tmp 24) rfl w.heap.size _ k _ rfl (HR2.out.alloc _) w2.heap.size _ rfl (World.cell?_alloc_at _ _ _ _ rfl) ?_ ?_ ?_;omega;(simp;omega);intro v3 w3 hr3 hg3 hat3)
   go_roundw
   case rel=>
    have hl:=HL.out
    exact ⟨k+1,l++[m],by omega,by omega,by go_num,by simp[hl],all_app HM.out HMS.out,hr3,Below.grown (HB2.out.alloc hsz2 _) hg3 (by simp;omega) (fun g hg=>(HR2.out.lt g hg).1)⟩
   case measure=>have:=H2.out;simp[intOf];omega
  ·by_cases h0:k=0
   ·subst h0
    have hts:t.size=0:=by omega
    have j1:¬ (0:Int)<(t.size:Int):=by omega
    clear hlt hkt hts
    go_wp2_with fail
    refine (master_any _ _).mono ?_
    rintro e w2 ⟨m,hms,rfl,hb2⟩
    have HMS:=hide hms
    have HR2:=hide (Row.after HR.out hb2)
    have HB2:=hide (HBE.out.trans (hb2.mono HBE.out.size))
    have hsz2:=HB2.out.size
    clear hb2 hms HR
    go_wp2_with (at_builtin;refine wpList_append_strB rfl (.tmp 30) (.tmp 32) rfl w.heap.size _ 0 _ rfl (HR2.out.alloc _) w2.heap.size _ rfl (World.cell?_alloc_at _ _ _ _ rfl) ?_ ?_ ?_;omega;(simp;omega);intro v3 w3 hr3 hg3 hat3)
    go_ret
    have hl:=HL.out
    exact ⟨_,rfl,l++[m],by simpa [hl] using hr3,(fun _=>by simp[hl]),by simp,by simp[hl],all_app HM.out HMS.out,Below.grown (HB2.out.alloc hsz2 _) hg3 (by simp;omega) (fun g hg=>(HR2.out.lt g hg).1)⟩
   ·have z0:((k:Int)==0)=false:=beq_eq_false_iff_ne.2 (by omega)
    have H1:=hide (show 1≤k∧k≤3∧(t.size=1→k=1) by omega)
    by_cases h1:k<t.size
    ·have j1:(k:Int)<(t.size:Int):=by omega
     have j2:¬ (k:Int)<3:=by omega
     go_wp2
     go_ret
     have hl:=HL.out
     exact ⟨_,rfl,l,by rw[hl];exact HR.out,by rw[hl];exact H1.out.2.2,by rw[hl];exact H1.out.1,by rw[hl];exact H1.out.2.1,HM.out,HBE.out⟩
    ·have j1:¬ (k:Int)<(t.size:Int):=by omega
     go_wp2
     go_ret
     have hl:=HL.out
     exact ⟨_,rfl,l,by rw[hl];exact HR.out,by rw[hl];exact H1.out.2.2,by rw[hl];exact H1.out.1,by rw[hl];exact H1.out.2.1,HM.out,HBE.out⟩
def Bts (w:World) (N:Nat) (v:Value) (wr:World):Prop:=(∃ l:List UInt8,l.length=N∧Row wr w.heap.size 5 1 v N (u8L l))∧Below w.heap.size w wr
set_option maxRecDepth 100000 in
set_option maxHeartbeats 1600000 in
theorem draws_any (c:Int) (n:Nat) (w:World) (_h1 : -9223372036854775808≤c) (_h2:c≤9223372036854775807) (hn:n≤1000):Calls Tryd.prog 8 #[.int .i64 c,.int .i64 (n:Nat)] w (Text (16*n) w):=by
 obtain ⟨N,hN⟩:∃ N:Nat,N=n*16:=⟨_,rfl⟩
 have hw:(n:Int)*16=(N:Int):=by omega
 have hmk:=make_cap N (by omega)
 have hrow:Row (w.alloc (.cells (u8L (List.replicate N 0)).toArray 5)) w.heap.size 5 1 (.slice (some ⟨w.heap.size,0,none⟩) 0 N) 0 (u8L []):=
  ⟨rfl,.inr ⟨w.heap.size,N,u8L (List.replicate N 0),rfl,Nat.le_refl _,(Blk.new rfl rfl:Blk _ _ _ (u8L (List.replicate N 0))).marked,Nat.zero_le _,by unfold maxLen;omega,by simp[u8L],rfl⟩⟩
 have HB0:=hide (show Bts w 0 (.slice (some ⟨w.heap.size,0,none⟩) 0 N) (w.alloc (.cells (u8L (List.replicate N 0)).toArray 5)) from ⟨⟨[],rfl,hrow⟩,(Below.refl _ _).alloc (Nat.le_refl _) _⟩)
 have HN:=hide hN
 clear hN hrow
 go_enter Tryd.func8,Tryd.ntmps8
 go_wp2
 clear hmk hw
 go_loopw [5,6] (fun v i wr=>∃ j:Nat,j≤n∧i = .int .i64 j∧Bts w (16*j) v wr) (fun _ i _=>n-(intOf i).toNat)
 case atStart=>exact ⟨0,Nat.zero_le _,rfl,HB0.out⟩
 case round=>
  clear HB0
  obtain ⟨j,hj,rfl,hB⟩:=hrel
  have HB:=hide hB
  obtain ⟨⟨l0,hl0,hr0⟩,hbe0⟩:=hB
  obtain ⟨ao,cap,rfl,hc1,hc2,hcv⟩:=Row.strAny hr0
  clear hr0 hbe0
  by_cases hlt:j<n
  ·have jk:(j:Int)<(n:Int):=by omega
   clear hcv hl0 hc1
   go_wp2
   go_loopw [5,7] (fun v i w1=>∃ k:Nat,k≤8∧i = .int .i64 k∧Bts w (16*j+k) v w1) (fun _ i _=>8-(intOf i).toNat)
   case atStart=>exact ⟨0,Nat.zero_le _,rfl,HB.out⟩
   case round=>
    obtain ⟨k,hk,rfl,hBk⟩:=hrel
    obtain ⟨⟨l1,hl1,hr1⟩,hbe1⟩:=hBk
    have HL1:=hide hl1
    have HR1:=hide hr1
    have HBE1:=hide hbe1
    have hsz:=hbe1.size
    obtain ⟨R1,hR1⟩:∃ x:Nat,16*j+k=x:=⟨_,rfl⟩
    have hRb:R1≤20000:=by omega
    rw[hR1] at HR1 HL1 hr1
    have HQ1:=hide hR1
    obtain ⟨ao1,cap1,rfl,hd1,hd2⟩:=Row.anyN hr1
    clear hl1 hr1 hbe1 hR1
    unfold maxLen at hd2
    by_cases h8:k<8
    ·obtain ⟨E,hE⟩:∃ E:Nat,8*k=E:=⟨_,rfl⟩
     have tE:8*(k:Int)=(E:Int):=by omega
     have tm:(E:Int)%18446744073709551616=(E:Int):=by omega
     have tmin:min E 64=E:=by omega
     have HE:=hide hE
     have H8:=hide h8
     clear hE
     obtain ⟨X,hX1⟩:=u8_of (c/2 ^ E)
     have X1:=hide hX1
     clear hX1
     go_wp2_with (at_builtin;refine wpList_append_u8 rfl (.tmp 21) (.tmp 28) rfl w.heap.size _ R1 _ rfl (HR1.out.alloc _) ⟨wr.heap.size,0,none⟩ 1 1 [X] rfl rfl (one_news X1.out (World.cell?_alloc_at _ _ _ _ rfl)) ?_ ?_ ?_;omega;(simp;omega);intro v1 w1 hr1 hg1 hat1)
     go_roundw
     case rel=>
      have hl1:=HL1.out
      exact ⟨k+1,by omega,by go_num,⟨l1++[X],by rw[List.length_append,hl1,←HQ1.out];rfl,by rw[show 16*j+(k+1)=R1+1 by rw[←HQ1.out];rfl];exact hr1⟩,Below.grown (HBE1.out.alloc hsz _) hg1 (by simp;omega) (fun k hk=>(HR1.out.lt k hk).1)⟩
     case measure=>have:=H8.out;simp[intOf];omega
    ·have hk8:k=8:=by omega
     subst hk8
     have HB8:=hide (show Bts w R1 (.slice ao1 R1 cap1) wr from ⟨⟨l1,HL1.out,HR1.out⟩,HBE1.out⟩)
     clear HL1 HR1 HBE1 hk h8
     go_wp2
     go_loopw [5,8] (fun v i w1=>∃ k:Nat,k≤8∧i = .int .i64 k∧Bts w (R1+k) v w1) (fun _ i _=>8-(intOf i).toNat)
     case atStart=>exact ⟨0,Nat.zero_le _,rfl,HB8.out⟩
     case round=>
      clear HB8
      obtain ⟨k,hk,rfl,hBk⟩:=hrel
      obtain ⟨⟨l2,hl2,hr2⟩,hbe2⟩:=hBk
      have HL2:=hide hl2
      have HR2:=hide hr2
      have HBE2:=hide hbe2
      have hsz2:=hbe2.size
      obtain ⟨R2,hR2⟩:∃ x:Nat,R1+k=x:=⟨_,rfl⟩
      have hRb:R2≤20000:=by have:=HQ1.out;omega
      rw[hR2] at HR2 HL2 hr2
      have HQ2:=hide hR2
      obtain ⟨ao2,cap2,rfl,hd3,hd4⟩:=Row.anyN hr2
      clear hl2 hr2 hbe2 hR2
      unfold maxLen at hd4
      by_cases h8:k<8
      ·obtain ⟨X,hX1⟩:=u8_of ((j:Int)+(k:Int))
       have X1:=hide hX1
       have H8:=hide h8
       clear hX1
       go_wp2_with (at_builtin;refine wpList_append_u8 rfl (.tmp 34) (.tmp 39) rfl w.heap.size _ R2 _ rfl (HR2.out.alloc _) ⟨wr.heap.size,0,none⟩ 1 1 [X] rfl rfl (one_news X1.out (World.cell?_alloc_at _ _ _ _ rfl)) ?_ ?_ ?_;omega;(simp;omega);intro v1 w1 hr1 hg1 hat1)
       go_roundw
       case rel=>
        have hl2:=HL2.out
        have hb:Bts w (R1+(k+1)) v1 w1:=⟨⟨l2++[X],by rw[List.length_append,hl2,←HQ2.out];rfl,by rw[show R1+(k+1)=R2+1 by rw[←HQ2.out];rfl];exact hr1⟩,Below.grown (HBE2.out.alloc hsz2 _) hg1 (by simp;omega) (fun k hk=>(HR2.out.lt k hk).1)⟩
        (repeat apply Exists.intro)
        exact ⟨⟨k+1,by omega,by go_num,hb⟩,rfl⟩
       case measure=>have:=H8.out;simp[intOf];omega
      ·have hk8:k=8:=by omega
       subst hk8
       clear hk h8
       have HLT:=hide hlt
       go_wp2
       go_roundw
       case rel=>
        have e1:=HQ1.out
        have e2:=HQ2.out
        have hb:Bts w (16*(j+1)) (.slice ao2 R2 cap2) wr:=by
         rw[show 16*(j+1)=R2 by omega]
         exact ⟨⟨l2,HL2.out,HR2.out⟩,HBE2.out⟩
        exact ⟨j+1,by have:=HLT.out;omega,by go_num,hb⟩
       case measure=>have:=HLT.out;simp[intOf];omega
  ·have hjn:j=n:=by omega
   subst hjn
   have HC:=hide hl0
   clear hl0 hlt
   go_wp2
   go_ret
   exact ⟨_,by rw[two_size];exact HC.out,rfl,HB.out.2⟩
namespace Ref
theorem begin_good {l:List ByteArray} {s:ByteArray} (h1:1≤l.length) (h3:l.length≤3) (hm:∀ m ∈ l,m.size=32) (hs:16*(l.length+2)≤s.size):beginE l s 0=0:=by
 have hc:chkM l=0:=by
  unfold chkM
  rw[if_neg (by omega),if_neg]
  rintro ⟨i,hi,h⟩
  refine h ?_
  rw[List.getD_eq_getElem?_getD,List.getElem?_eq_getElem hi]
  exact hm _ (List.getElem_mem hi)
 unfold beginE
 rw[if_neg (by rw[hc];simp),if_pos (by omega)]
theorem put_take (k:Snk) (t:ByteArray):(k.put t).got.data.toList=k.got.data.toList++t.data.toList.take (k.takes t):=by
 show (k.got++t.extract 0 _).data.toList=_
 rw[ba_list,ext_take]
theorem encF_ne {key:List UInt8} (hk:key.length=32) (X:List UInt8):encF key X≠[]:=fun e=>by
 have hb:=box_pos hk (full X.length) true (X.drop (16*full X.length))
 have:=congrArg List.length e
 unfold encF at this
 rw[List.length_append,List.length_nil] at this
 omega
theorem newE_eq {l:List ByteArray} {s:ByteArray} (hb:beginE l s 0=0) (k:Snk):newE l s 0 k=if k.ok (head l s 0)=false then 16 else (k.put (head l s 0)).err (pdraw l s 0):=by
 unfold newE
 rw[if_neg (by rw[hb];simp)]
theorem newK_eq {l:List ByteArray} {s:ByteArray} (hb:beginE l s 0=0) (k:Snk):newK l s 0 k=if k.ok (head l s 0)=false then k.put (head l s 0) else (k.put (head l s 0)).put (pdraw l s 0):=by
 unfold newK
 rw[if_neg (by rw[hb];simp)]
theorem new_bad {l:List ByteArray} {s:ByteArray} {k:Snk} (hb:beginE l s 0=0) (hk:k.got=⟨#[]⟩) (X:List UInt8) (hne:newE l s 0 k≠0):
  newE l s 0 k=16∧∃ r,r≠[]∧file l s 0 X=(newK l s 0 k).got.data.toList++r:=by
 have hpk:(pkey l s 0).data.toList.length=32:=by rw[ba_len,pkey_size]
 have hE:=encF_ne hpk X
 have h0:k.got.data.toList=[]:=by rw[hk]
 rw[newE_eq hb] at hne ⊢
 rw[newK_eq hb]
 unfold file
 by_cases h1:k.ok (head l s 0)=false
 ·rw[if_pos h1,if_pos h1]
  refine ⟨rfl,(head l s 0).data.toList.drop (k.takes (head l s 0))++(pdraw l s 0).data.toList++encF (pkey l s 0).data.toList X,fun e=>hE (List.append_eq_nil_iff.1 e).2,?_⟩
  rw[put_take,h0,List.nil_append,List.append_assoc,List.append_assoc,←List.append_assoc (List.take _ _),List.take_append_drop]
 ·rw[if_neg h1] at hne ⊢
  rw[if_neg h1]
  have h1':k.ok (head l s 0)=true:=by simpa using h1
  rcases (k.put (head l s 0)).err_cases (pdraw l s 0) with ⟨e,_⟩ | ⟨e,_⟩
  ·exact absurd e hne
  ·refine ⟨e,(pdraw l s 0).data.toList.drop ((k.put (head l s 0)).takes (pdraw l s 0))++encF (pkey l s 0).data.toList X,fun e=>hE (List.append_eq_nil_iff.1 e).2,?_⟩
   rw[put_take,put_got h1',h0,List.nil_append,List.append_assoc,List.append_assoc,←List.append_assoc (List.take _ _),List.take_append_drop]
theorem new_good {l:List ByteArray} {s:ByteArray} {k:Snk} (hb:beginE l s 0=0) (hk:k.got=⟨#[]⟩) (X:List UInt8) (hne:newE l s 0 k=0):
  Good (pkey l s 0).data.toList X ((head l s 0).data.toList++(pdraw l s 0).data.toList) 0 ⟨0,[],newK l s 0 k⟩:=by
 have h0:k.got.data.toList=[]:=by rw[hk]
 refine ⟨rfl,by simp,?_⟩
 show (newK l s 0 k).got.data.toList=_
 rw[newE_eq hb] at hne
 rw[newK_eq hb]
 by_cases h1:k.ok (head l s 0)=false
 ·rw[if_pos h1] at hne;cases hne
 ·rw[if_neg h1] at hne ⊢
  have h1':k.ok (head l s 0)=true:=by simpa using h1
  rcases (k.put (head l s 0)).err_cases (pdraw l s 0) with ⟨_,e⟩ | ⟨e,_⟩
  ·rw[put_got e,put_got h1',h0,List.nil_append]
   show _=_++[]
   rw[List.append_nil]
  ·rw[e] at hne;cases hne
theorem new_room {l:List ByteArray} {s:ByteArray} {k:Snk} (hb:beginE l s 0=0) (hk:k.got=⟨#[]⟩) (hp:k.pos=0):(newK l s 0 k).got.size≤2000∧(newK l s 0 k).pos≤2∧(newK l s 0 k).plan=k.plan:=by
 obtain ⟨s1,s2⟩:=head_size hb
 have e0:k.got.size=0:=by rw[hk];rfl
 have a1:=k.put_size (head l s 0)
 have a2:=k.put_pos (head l s 0)
 have b1:=(k.put (head l s 0)).put_size (pdraw l s 0)
 have b2:=(k.put (head l s 0)).put_pos (pdraw l s 0)
 rw[newK_eq hb]
 split
 ·exact ⟨by omega,by omega,rfl⟩
 ·exact ⟨by omega,by omega,rfl⟩
def Pre (F:List UInt8) (got:ByteArray):Prop:=∃ r,r≠[]∧F=got.data.toList++r
theorem Pre.lt {f got:ByteArray} (h:Pre f.data.toList got):got.size<f.size:=by
 obtain ⟨r,hr,e⟩:=h
 have e2:=congrArg List.length e
 rw[List.length_append,ba_len,ba_len] at e2
 have:=List.length_pos_iff.2 hr
 omega
end Ref
structure FlS (w:World) (v:Value) (l:List ByteArray) (wi:World):Prop where
 two:2≤w.heap.size
 tabs:Tabs wi
 strs:Strs wi v l
 be:Below w.heap.size w wi
theorem FlS.after {w:World} {v:Value} {l:List ByteArray} {wi wj:World} (h:FlS w v l wi) (hb:Below wi.heap.size wi wj):FlS w v l wj:=⟨h.two,h.tabs.after hb,h.strs.after hb,h.be.trans (hb.mono h.be.size)⟩
theorem FlS.grown {w:World} {v:Value} {l:List ByteArray} {wi wj:World} {b:Nat} (h:FlS w v l wi) (hg:wi.grownBy wj (some b)) (hb:w.heap.size≤b) (hv:∀ g o n c,v = .slice (some ⟨g,o,none⟩) n c→0<l.length→g≠b):FlS w v l wj:=
 ⟨h.two,h.tabs.grown hg (Nat.le_trans h.two hb),h.strs.grown hg hv,h.be.trans (RowKit.Below.of_grown hg hb h.be.size)⟩
theorem FlS.apart {w:World} {v:Value} {l:List ByteArray} {wi:World} (h:FlS w v l wi) {b:Nat} (hb:wi.heap.size≤b):∀ g o n c,v = .slice (some ⟨g,o,none⟩) n c→0<l.length→g≠b:=fun g o n c e hl=>Nat.ne_of_lt (Nat.lt_of_lt_of_le (h.strs.blt g o n c e hl) hb)
def fileB (l:List ByteArray) (d text:ByteArray):ByteArray:=⟨(Ref.file l d 0 text.data.toList).toArray⟩
theorem enc_ok {w w3:World} {v:Value} {l:List ByteArray} {d text:ByteArray} {b:Nat} (F:FlS w v l w3) (hl:l.length=1) (hm:∀ m ∈ l,m.size=32) (hd:d.size=16*3) (hx:text.size≤268435456) (hb:Blk w3 b 54 (springCells d 0)) (hge:w.heap.size≤b) (hv:∀ g o n c,v = .slice (some ⟨g,o,none⟩) n c→0<l.length→g≠b):
  Calls Tryd.prog 16 #[v,.pointer (some ⟨b,0,none⟩),.string text] w3 fun e w4=>e = .returned (.tuple #[.string (fileB l d text),.int .i64 0])∧FlS w v l w4:=by
 have hE:Ref.beginE l d 0=0:=Ref.begin_good (by omega) (by omega) hm (by omega)
 refine (encrypt_any v l b d 0 text w3 F.tabs F.strs hv (by omega) hb (Nat.le_trans F.two hge) (Nat.zero_le _) (by omega) (by omega)).mono ?_
 rintro e w4 ⟨rfl,_,hG⟩
 rw[hE,if_pos rfl]
 exact ⟨rfl,F.grown hG hge hv⟩
def NewQ (w:World) (l:List ByteArray) (d:ByteArray) (sk g:Nat) (k:Snk) (w7:World) (e:Ending) (w':World):Prop:=∃ pv,
 e = .returned (.tuple #[pv,.int .i64 (Ref.newE l d 0 k)])∧(Ref.newE l d 0 k≠0→pv = .pointer none) ∧
  (Ref.newE l d 0 k=0→∃ wb,w7.heap.size≤wb∧pv = .pointer (some ⟨wb,0,none⟩)∧WRep wb sk g (Ref.pkey l d 0) ⟨0,[],Ref.newK l d 0 k⟩ w') ∧
  Blk w' sk 56 ((Ref.newK l d 0 k).cells g)∧Below w.heap.size w w'
theorem new_ok {w w7:World} {v:Value} {l:List ByteArray} {d:ByteArray} {b sk g:Nat} {pl:List Int} (F:FlS w v l w7) (hl:l.length=1) (hm:∀ m ∈ l,m.size=32) (hd:d.size=16*3) (hb:Blk w7 b 54 (springCells d 0)) (hge:w.heap.size≤b) (hv:∀ g o n c,v = .slice (some ⟨g,o,none⟩) n c→0<l.length→g≠b)
  (hG:Blk w7 g 3 (intV pl)) (hS:Blk w7 sk 56 [.string ⟨#[]⟩,.slice (some ⟨g,0,none⟩) pl.length pl.length,.int .i64 0]) (hbk:b≠sk) (hbg:b≠g) (hgk:g≠sk∧w.heap.size≤sk) (_hpl:pl.length≤1099511627776):
  Calls Tryd.prog 11 #[v,.pointer (some ⟨b,0,none⟩),.pointer (some ⟨sk,0,none⟩)] w7 (NewQ w l d sk g ⟨⟨#[]⟩,pl,0⟩ w7):=by
 have hE:Ref.beginE l d 0=0:=Ref.begin_good (by omega) (by omega) hm (by omega)
 have hgl:=hG.lt
 have hskl:=hS.lt
 refine (newWriter_any v l b d 0 sk g ⟨⟨#[]⟩,pl,0⟩ w7 F.tabs F.strs hv (by omega) hb (Nat.le_trans F.two hge) (Nat.zero_le _) (by omega) hS hG hbk hbg hgk.1 (by show 0+3000<_;decide) (by show 0+10<_;decide)).mono ?_
 rintro e w8 ⟨pv,rfl,h1,h2,hS8,_,hC⟩
 obtain ⟨r1,r2,r3⟩:=Ref.new_room (k:=⟨⟨#[]⟩,pl,0⟩) hE rfl rfl
 refine ⟨pv,rfl,h1,fun h0=>?_,hS8,F.be.trans ⟨hC.os,hC.tape,hC.output,hC.size,fun k hk=>hC.block k (Nat.lt_of_lt_of_le hk F.be.size) (by omega)⟩⟩
 obtain ⟨wb,hw,rfl,hB⟩:=h2 h0
 exact ⟨wb,hw,rfl,⟨⟨nought 16,rfl,rfl,hB⟩,Nat.zero_le _,hS8,by rw[r3];exact hC.blk hG (fun e=>e.elim (fun e=>hbg e.symm) (fun e=>hgk.1 e))⟩⟩
def OkSt (wb sk g:Nat) (key X:ByteArray) (hd:List UInt8) (j:Nat) (w:World):Prop:=∃ s:Ref.Wr,WRep wb sk g key s w∧Ref.Good key.data.toList X.data.toList hd j s∧s.n≤j∧s.k.got.size≤2000+32*j∧s.k.pos≤2+j
def BadSt (wb sk g:Nat) (F:List UInt8) (w:World):Prop:=WEnd wb 16 w∧∃ k:Snk,Blk w sk 56 (k.cells g)∧Ref.Pre F k.got
theorem Chg.over {w w1 w2:World} {wb sk:Nat} (hC:Chg (fun x=>x=wb∨x=sk) w1 w2) (hb:Below w.heap.size w w1) (h1:w.heap.size≤wb) (h2:w.heap.size≤sk):Below w.heap.size w w2:=
 hb.trans ⟨hC.os,hC.tape,hC.output,hC.size,fun k hk=>hC.block k (Nat.lt_of_lt_of_le hk hb.size) (by omega)⟩
def WroteQ (w:World) (wb sk g:Nat) (key X:ByteArray) (hd:List UInt8) (j n:Nat) (e:Ending) (w':World):Prop:=
 Below w.heap.size w w'∧((e = .returned (.tuple #[.int .i64 (n:Nat),.int .i64 0])∧OkSt wb sk g key X hd (j+n) w')∨(∃ i:Nat,i<n∧e = .returned (.tuple #[.int .i64 (i:Nat),.int .i64 16])∧BadSt wb sk g (hd++Ref.encF key.data.toList X.data.toList) w'))
theorem write_ok {w w1:World} {wb sk g:Nat} {key X:ByteArray} {hd:List UInt8} {j:Nat} (n:Nat) (h:OkSt wb sk g key X hd j w1) (hkey:key.size=32) (hX:X.size≤268435456) (hj:j+n≤X.size) (hbe:Below w.heap.size w w1) (h1:w.heap.size≤wb) (h2:w.heap.size≤sk) (hwk:wb≠sk) (hwg:wb≠g) (hgk:g≠sk):
  Calls Tryd.prog 20 #[.pointer (some ⟨wb,0,none⟩),.string ((X.extract j X.size).extract 0 n)] w1 (WroteQ w wb sk g key X hd j n):=by
 obtain ⟨s,hR,hG,b1,b2,b3⟩:=h
 obtain ⟨p,hp⟩:∃ p,(X.extract j X.size).extract 0 n=p:=⟨_,rfl⟩
 have hpl:p.data.toList=(X.data.toList.drop j).take n:=by rw[←hp,ext_take,sub_list,List.take_take,Nat.min_eq_left (by omega)]
 have hpn:p.data.toList.length=n:=by rw[hpl,List.length_take,List.length_drop,ba_len];omega
 have hps:p.size=n:=by rw[←ba_len,hpn]
 have hget:∀ i,i<p.data.toList.length→p.data.toList.getD i 0=X.data.toList.getD (j+i) 0:=by
  intro i hi
  rw[hpn] at hi
  rw[hpl,List.getD_eq_getElem?_getD,List.getD_eq_getElem?_getD,List.getElem?_take,if_pos hi,List.getElem?_drop]
 have hat:=hG.at p.data.toList hget (by rw[hpn,ba_len];exact hj)
 have hft:=Ref.Wr.at_fits s hR.t16 key.data.toList p.data.toList
 rw[hp]
 refine (write_any wb sk g key s p w1 hR hkey hwk hwg hgk (by omega) (by omega) (by omega)).mono ?_
 rintro e w2 (⟨r,hr,rfl,hR2,hC⟩ | ⟨i,r,hi,hr,h16,hok,rfl,hW,hS,hC⟩)
 ·rw[hps] at hr ⊢
  have f:=hft n r hr
  have f1:=f.n
  have f2:=f.got
  have f3:=f.pos
  exact ⟨hC.over hbe h1 h2,.inl ⟨rfl,r,hR2,hat n r (by omega) hr,by omega,by omega,by omega⟩⟩
 ·rw[hps] at hi
  obtain ⟨q,hq,hF⟩:=(hat i r (by omega) hr).sentBad (by rw[ba_len,hkey]) (by rw[ba_len];omega) h16 hok
  exact ⟨hC.over hbe h1 h2,.inr ⟨i,hi,rfl,hW,_,hS,q,hq,hF⟩⟩
def ClosedQ (w:World) (wb sk g:Nat) (F:List UInt8) (e:Ending) (w':World):Prop:=
 Below w.heap.size w w'∧((e = .returned (.int .i64 0)∧∃ k:Snk,Blk w' sk 56 (k.cells g)∧k.got=⟨F.toArray⟩)∨(e = .returned (.int .i64 16)∧BadSt wb sk g F w'))
theorem close_ok {w w1:World} {wb sk g:Nat} {key X:ByteArray} {hd:List UInt8} (h:OkSt wb sk g key X hd X.size w1) (hkey:key.size=32) (hX:X.size≤268435456) (hbe:Below w.heap.size w w1) (h1:w.heap.size≤wb) (h2:w.heap.size≤sk) (hwk:wb≠sk):
  Calls Tryd.prog 21 #[.pointer (some ⟨wb,0,none⟩)] w1 (ClosedQ w wb sk g (hd++Ref.encF key.data.toList X.data.toList)):=by
 obtain ⟨s,hR,hG,b1,b2,b3⟩:=h
 rw[←ba_len] at hG
 refine (close_any wb sk g key s w1 hR hkey hwk (by omega) (by omega) (by omega)).mono ?_
 rintro e w2 ⟨rfl,hW,hS,hC⟩
 refine ⟨hC.over hbe h1 h2,?_⟩
 rcases s.k.err_cases (s.box key.data.toList true) with ⟨he,hok⟩ | ⟨he,hok⟩
 ·rw[he]
  exact .inl ⟨rfl,_,hS,ba_ext (by rw[hG.closed hok])⟩
 ·rw[he]
  rw[hok] at hW
  obtain ⟨q,hq,hF⟩:=hG.closedBad (by rw[ba_len,hkey]) hok
  exact .inr ⟨rfl,hW,_,hS,q,hq,hF⟩
theorem tx_all (tx:ByteArray):tx.extract 0 tx.size=tx:=ba_ext (by rw[ext_take,List.take_of_length_le (by rw[ba_len];exact Nat.le_refl _)])
theorem tx_end (tx:ByteArray):ByteArray.empty=tx.extract tx.size tx.size:=ba_ext (by rw[sub_list];simp)
theorem tx_none (tx:ByteArray):tx.extract 0 0=ByteArray.empty:=ba_ext (by rw[sub_list];simp)
theorem piece_call {X tx:ByteArray} {j:Nat} (h:X.extract j X.size=tx) (a:ByteArray) (n:Nat) (ha:tx.extract 0 n=a) {v:Value} {w:World} {Q:Ending→World→Prop} (hc:Calls Tryd.prog 20 #[v,.string ((X.extract j X.size).extract 0 n)] w Q):Calls Tryd.prog 20 #[v,.string a] w Q:=by
 rw[h,ha] at hc
 exact hc
theorem tx_drop {X tx:ByteArray} {j:Nat} (h:X.extract j X.size=tx) (hj:j≤X.size) (n:Nat) {y:ByteArray} (hy:y=tx.extract n tx.size):y=X.extract (j+n) X.size:=by
 subst hy
 subst h
 apply ba_ext
 have hz:(X.extract j X.size).size=X.size-j:=by rw[ByteArray.size_extract];omega
 rw[hz,sub_list,sub_list,sub_list,List.drop_take,List.drop_drop,List.take_take]
 congr 1
 omega
def LoopR (w:World) (wb sk g:Nat) (key X:ByteArray) (hd:List UInt8) (vt ve vk:Value) (wr:World):Prop:=∃ j k:Nat,j≤X.size∧k≤101+j∧vt = .string (X.extract j X.size)∧vk = .int .i64 k∧Below w.heap.size w wr∧((ve = .int .i64 0∧OkSt wb sk g key X hd j wr)∨(ve = .int .i64 16∧BadSt wb sk g (hd++Ref.encF key.data.toList X.data.toList) wr))
set_option maxRecDepth 100000 in
set_option maxHeartbeats 3200000 in
theorem fails_any (text plan:ByteArray) (turn c:Int) (w:World) (ht:Tabs w) (hx:text.size≤268435456) (hp:plan.size≤268435456) (t1 : -9223372036854775808≤turn) (t2:turn≤9223372036854775807) (c1 : -9223372036854775808≤c) (c2:c≤9223372036854775807):
  Calls Tryd.prog 6 #[.string text,.string plan,.int .i64 turn,.int .i64 c] w fun e w'=>e = .returned (.bool true)∧Below w.heap.size w w':=by
 have HD:Hid (∀ w,Calls Tryd.prog 8 #[.int .i64 c,.int .i64 ((3:Nat):Int)] w (Text (16*3) w)):=hide (fun w=>draws_any c 3 w c1 c2 (by decide))
 have HPI:=hide (fun k w hk=>piece_any turn k w t1 t2 hk)
 have HT:=hide ht
 have HX:=hide hx
 have HP:=hide hp
 clear ht t1 t2 c1 c2 hx hp
 go_enter Tryd.func6,Tryd.ntmps6
 go_wp2_with fail
 refine (masters_any ⟨#[1]⟩ _ (by decide)).mono ?_
 rintro e w1 ⟨v,rfl,l,hr,hl1,h1,h3,hm,hb1⟩
 have F1:=hide (show FlS w v l w1 from ⟨HT.out.two,HT.out.after hb1,Row.strs hr,hb1⟩)
 have HM:=hide hm
 have HL:=hide (show l.length=1 from hl1 rfl)
 obtain ⟨ao,cap,rfl,hd1,hd2⟩:=Row.anyN hr
 clear hr hb1 hm hl1 h1 h3 HT hd1 hd2
 obtain ⟨ln,hln⟩:∃ n:Nat,l.length=n:=⟨_,rfl⟩
 rw[hln] at F1
 rw[hln]
 clear hln
 go_wp2_with fail
 refine (HD.out _).mono ?_
 rintro e w2 ⟨d,hds,rfl,hb2⟩
 have F2:=hide (F1.out.after hb2)
 have HDS:=hide hds
 clear hb2 F1 HD hds
 go_wp2_with fail
 refine (springOf_any d _).mono ?_
 rintro e w3 ⟨rfl,hB3,hb3⟩
 have F3:=hide (F2.out.after hb3)
 have HB3:=hide (show Blk w3 w2.heap.size 54 (springCells d 0) from hB3)
 have A3:=hide (F2.out.apart (Nat.le_refl _))
 have hge2:=F2.out.be.size
 clear hb3 hB3 F2
 have HE:=hide (enc_ok (F3.out) HL.out HM.out HDS.out HX.out HB3.out hge2 A3.out)
 clear A3 HB3
 go_wp2_with fail
 refine HE.out.mono ?_
 rintro e w4 ⟨rfl,hf4⟩
 have F4:=hide hf4
 clear hf4 HE F3
 obtain ⟨full,hfull⟩:∃ f,fileB l d text=f:=⟨_,rfl⟩
 rw[hfull]
 have HF:=hide hfull
 clear hfull
 go_wp2_with fail
 refine (springOf_any d _).mono ?_
 rintro e w5 ⟨rfl,hB5,hb5⟩
 have F5:=hide (F4.out.after hb5)
 have HB5:=hide (show Blk w5 w4.heap.size 54 (springCells d 0) from hB5)
 have A5:=hide (F4.out.apart (Nat.le_refl _))
 have hge4:=F4.out.be.size
 have hlt5:=hB5.lt
 clear hb5 hB5 F4
 go_wp2_with fail
 refine (wild_any plan _ (Nat.le_trans HP.out (by decide))).mono ?_
 rintro e w6 ⟨pl,hpl,rfl,hB6,hb6⟩
 have F6:=hide (F5.out.after hb6)
 have HB6:=hide (HB5.out.below hb6 HB5.out.lt)
 have HG6:=hide hB6
 have HPL:=hide hpl
 have hlt6:=hb6.size
 rw[←hpl]
 clear hb6 hB6 F5 HB5 hpl
 have HPB:=hide (show pl.length≤1099511627776 by have:=HP.out;have:=HPL.out;omega)
 go_wp2_with fail
 refine (sinkOf_any _ _ pl _ HG6.out HPB.out).mono ?_
 rintro e w7 ⟨sk,rfl,hsk,hG7,hS7,hb7⟩
 have F7:=hide (F6.out.after hb7)
 have HB7:=hide (HB6.out.below hb7 HB6.out.lt)
 have hlt7:=hS7.lt
 have HW:=hide (new_ok F7.out HL.out HM.out HDS.out HB7.out hge4 A5.out hG7 hS7 (by omega) (by omega) (by omega) HPB.out)
 clear hb7 hG7 hS7 F6 HB6 HB7 HG6
 go_wp2_with fail
 refine HW.out.mono ?_
 rintro e w8 ⟨pv,rfl,hn1,hn2,hS8,hbe8⟩
 have HFL:=hide (show full.data.toList=((Ref.head l d 0).data.toList++(Ref.pdraw l d 0).data.toList)++Ref.encF (Ref.pkey l d 0).data.toList text.data.toList by rw[←HF.out];rfl)
 have HBG:=hide (show Ref.beginE l d 0=0 from Ref.begin_good (by rw[HL.out];decide) (by rw[HL.out];decide) HM.out (by rw[HL.out,HDS.out];decide))
 have HBE8:=hide hbe8
 have HSK:=hide (show w.heap.size≤sk∧w6.heap.size<sk∧sk<w7.heap.size by have:=F7.out.be.size;omega)
 clear hbe8 HW F7 A5 hge4 hge2 hlt5 hlt6 hlt7 hsk
 by_cases hne:Ref.newE l d 0 ⟨⟨#[]⟩,pl,0⟩=0
 ·rw[hne]
  obtain ⟨wb,hwb,rfl,hR⟩:=hn2 hne
  have HG:=Ref.new_good HBG.out rfl text.data.toList hne
  obtain ⟨r1,r2,r3⟩:=Ref.new_room (k:=⟨⟨#[]⟩,pl,0⟩) HBG.out rfl rfl
  have HOK:=hide (show OkSt wb sk w6.heap.size (Ref.pkey l d 0) text ((Ref.head l d 0).data.toList++(Ref.pdraw l d 0).data.toList) 0 w8 from ⟨_,hR,HG,Nat.zero_le _,r1,r2⟩)
  have HKY:=hide (Ref.pkey_size l d 0)
  have HNE:=hide (show wb≠sk∧wb≠w6.heap.size∧w6.heap.size≠sk∧w.heap.size≤wb by have:=HSK.out;omega)
  have HSK2:=hide HSK.out.1
  clear HG r1 r2 r3 hR hn1 hn2 hS8 hne HBG HSK HL HM HDS HF hwb
  generalize Ref.pkey l d 0=key at *
  generalize (Ref.head l d 0).data.toList++(Ref.pdraw l d 0).data.toList=hd at *
  generalize w6.heap.size=g at *
  have HE0:=hide (show text=text.extract 0 text.size from ba_ext (by rw[ext_take,List.take_of_length_le (by rw[ba_len];exact Nat.le_refl _)]))
  go_wp2
  go_loopw [0,13,20] (fun vt ve vk wr=>LoopR w wb sk g key text hd vt ve vk wr) (fun vt _ vk _=>strLen vt+(101-(intOf vk).toNat))
  case atStart=>exact ⟨0,0,Nat.zero_le _,Nat.zero_le _,congrArg Value.string HE0.out,rfl,HBE8.out,.inl ⟨rfl,HOK.out⟩⟩
  case round=>
   clear HBE8 HOK HE0
   obtain ⟨j,k,hj,hk,rfl,rfl,hbe,hst⟩:=hrel
   have hxb:=HX.out
   obtain ⟨tx,htx⟩:∃ x,text.extract j text.size=x:=⟨_,rfl⟩
   have hts:tx.size=text.size-j:=by rw[←htx,ByteArray.size_extract];omega
   rw[htx]
   have HTX:=hide htx
   have HTS:=hide hts
   have HJ:=hide hj
   have HKB:=hide (show k≤268435557∧tx.size≤268435456 by omega)
   have HBE:=hide hbe
   have HKJ:=hide hk
   have kb:(k:Int)≤268435557:=by omega
   have tb:(tx.size:Int)≤268435456:=by omega
   clear htx hts hj hbe hxb hk
   rcases hst with ⟨rfl,hok⟩ | ⟨rfl,hbad⟩
   ·have HOK:=hide hok
    clear hok
    by_cases hgo:0<tx.size∨k<2
    ·have HPK:=hide (fun w=>HPI.out k w (by have:=HKB.out;omega))
     by_cases h0:0<tx.size
     ·have j0:(0:Int)<(tx.size:Int):=by omega
      go_wp2_with fail
      refine (HPK.out _).mono ?_
      rintro e w9 ⟨n,hn,rfl,rfl⟩
      clear HPK
      by_cases hnm:tx.size<n
      ·have j1:(tx.size:Int)<(n:Int):=by omega
       have HWO:=hide (show Calls Tryd.prog 20 #[.pointer (some ⟨wb,0,none⟩),.string tx] w9 (WroteQ w wb sk g key text hd j (tx.size)) from piece_call HTX.out tx (tx.size) (by exact tx_all tx) (write_ok (tx.size) HOK.out HKY.out HX.out (by have:=HTS.out;have:=HJ.out;omega) HBE.out HNE.out.2.2.2 HSK2.out HNE.out.1 HNE.out.2.1 HNE.out.2.2.1))
       clear HOK HBE
       go_wp2_with fail
       refine HWO.out.mono ?_
       rintro e w10 ⟨hb10,⟨rfl,hok2⟩ | ⟨i,hi,rfl,hbad⟩⟩
       ·have H2:=hide hok2
        have HB10:=hide hb10
        clear hok2 hb10 HWO
        go_wp2
        go_roundw
        case rel=>exact ⟨j+(tx.size),k+1,by have:=HTS.out;have:=HJ.out;omega,by have:=HKJ.out;omega,congrArg Value.string (tx_drop HTX.out HJ.out (tx.size) (tx_end tx)),by go_num,HB10.out,.inl ⟨rfl,H2.out⟩⟩
        case measure=>have:=HKJ.out;simp[intOf,strLen];omega
       ·have zi:((i:Int)==((tx.size:Nat):Int))=false:=beq_eq_false_iff_ne.2 (by omega)
        have zj:¬ (((tx.size:Nat):Int)<(i:Int)):=by omega
        have H2:=hide hbad
        have HB10:=hide hb10
        clear hbad hb10 HWO
        go_wp2
        go_roundw
        case rel=>exact ⟨j+(tx.size),k+1,by have:=HTS.out;have:=HJ.out;omega,by have:=HKJ.out;omega,congrArg Value.string (tx_drop HTX.out HJ.out (tx.size) (tx_end tx)),by go_num,HB10.out,.inr ⟨rfl,H2.out⟩⟩
        case measure=>have:=HKJ.out;simp[intOf,strLen];omega
      ·have j1:¬ (tx.size:Int)<(n:Int):=by omega
       by_cases hn0:n=0
       ·subst hn0
        by_cases hk1:100<k
        ·have j2:(100:Int)<(k:Int):=by omega
         have HWO:=hide (show Calls Tryd.prog 20 #[.pointer (some ⟨wb,0,none⟩),.string tx] w9 (WroteQ w wb sk g key text hd j (tx.size)) from piece_call HTX.out tx (tx.size) (by exact tx_all tx) (write_ok (tx.size) HOK.out HKY.out HX.out (by have:=HTS.out;have:=HJ.out;omega) HBE.out HNE.out.2.2.2 HSK2.out HNE.out.1 HNE.out.2.1 HNE.out.2.2.1))
         clear HOK HBE
         go_wp2_with fail
         refine HWO.out.mono ?_
         rintro e w10 ⟨hb10,⟨rfl,hok2⟩ | ⟨i,hi,rfl,hbad⟩⟩
         ·have H2:=hide hok2
          have HB10:=hide hb10
          clear hok2 hb10 HWO
          go_wp2
          go_roundw
          case rel=>exact ⟨j+(tx.size),k+1,by have:=HTS.out;have:=HJ.out;omega,by have:=HKJ.out;omega,congrArg Value.string (tx_drop HTX.out HJ.out (tx.size) (tx_end tx)),by go_num,HB10.out,.inl ⟨rfl,H2.out⟩⟩
          case measure=>have:=HKJ.out;simp[intOf,strLen];omega
         ·have zi:((i:Int)==((tx.size:Nat):Int))=false:=beq_eq_false_iff_ne.2 (by omega)
          have zj:¬ (((tx.size:Nat):Int)<(i:Int)):=by omega
          have H2:=hide hbad
          have HB10:=hide hb10
          clear hbad hb10 HWO
          go_wp2
          go_roundw
          case rel=>exact ⟨j+(tx.size),k+1,by have:=HTS.out;have:=HJ.out;omega,by have:=HKJ.out;omega,congrArg Value.string (tx_drop HTX.out HJ.out (tx.size) (tx_end tx)),by go_num,HB10.out,.inr ⟨rfl,H2.out⟩⟩
          case measure=>have:=HKJ.out;simp[intOf,strLen];omega
        ·have j2:¬ (100:Int)<(k:Int):=by omega
         have HWO:=hide (show Calls Tryd.prog 20 #[.pointer (some ⟨wb,0,none⟩),.string ByteArray.empty] w9 (WroteQ w wb sk g key text hd j (0)) from piece_call HTX.out ByteArray.empty (0) (by exact tx_none tx) (write_ok (0) HOK.out HKY.out HX.out (by have:=HTS.out;have:=HJ.out;omega) HBE.out HNE.out.2.2.2 HSK2.out HNE.out.1 HNE.out.2.1 HNE.out.2.2.1))
         clear HOK HBE
         go_wp2_with fail
         refine HWO.out.mono ?_
         rintro e w10 ⟨hb10,⟨rfl,hok2⟩ | ⟨i,hi,rfl,hbad⟩⟩
         ·have H2:=hide hok2
          have HB10:=hide hb10
          clear hok2 hb10 HWO
          go_wp2
          go_roundw
          case rel=>exact ⟨j+(0),k+1,by have:=HTS.out;have:=HJ.out;omega,by have:=HKJ.out;omega,congrArg Value.string (tx_drop HTX.out HJ.out (0) ((tx_all tx).symm)),by go_num,HB10.out,.inl ⟨rfl,H2.out⟩⟩
          case measure=>have:=HKJ.out;simp[intOf,strLen];omega
         ·exact absurd hi (Nat.not_lt_zero _)
       ·have z0:((n:Int)==0)=false:=beq_eq_false_iff_ne.2 (by omega)
        have hle:n≤tx.size:=by omega
        have HWO:=hide (show Calls Tryd.prog 20 #[.pointer (some ⟨wb,0,none⟩),.string (tx.extract 0 n)] w9 (WroteQ w wb sk g key text hd j (n)) from piece_call HTX.out (tx.extract 0 n) (n) (by rfl) (write_ok (n) HOK.out HKY.out HX.out (by have:=HTS.out;have:=HJ.out;omega) HBE.out HNE.out.2.2.2 HSK2.out HNE.out.1 HNE.out.2.1 HNE.out.2.2.1))
        clear HOK HBE
        go_wp2_with fail
        refine HWO.out.mono ?_
        rintro e w10 ⟨hb10,⟨rfl,hok2⟩ | ⟨i,hi,rfl,hbad⟩⟩
        ·have H2:=hide hok2
         have HB10:=hide hb10
         clear hok2 hb10 HWO
         go_wp2
         go_roundw
         case rel=>exact ⟨j+(n),k+1,by have:=HTS.out;have:=HJ.out;omega,by have:=HKJ.out;omega,congrArg Value.string (tx_drop HTX.out HJ.out (n) (rfl)),by go_num,HB10.out,.inl ⟨rfl,H2.out⟩⟩
         case measure=>have:=HKJ.out;simp[intOf,strLen];omega
        ·have zi:((i:Int)==((n:Nat):Int))=false:=beq_eq_false_iff_ne.2 (by omega)
         have zj:¬ (((n:Nat):Int)<(i:Int)):=by omega
         have H2:=hide hbad
         have HB10:=hide hb10
         clear hbad hb10 HWO
         go_wp2
         go_roundw
         case rel=>exact ⟨j+(n),k+1,by have:=HTS.out;have:=HJ.out;omega,by have:=HKJ.out;omega,congrArg Value.string (tx_drop HTX.out HJ.out (n) (rfl)),by go_num,HB10.out,.inr ⟨rfl,H2.out⟩⟩
         case measure=>have:=HKJ.out;simp[intOf,strLen];omega
     ·have j0:¬ (0:Int)<(tx.size:Int):=by omega
      have hk2:k<2:=by omega
      have jk:(k:Int)<2:=by omega
      go_wp2_with fail
      refine (HPK.out _).mono ?_
      rintro e w9 ⟨n,hn,rfl,rfl⟩
      clear HPK
      by_cases hnm:tx.size<n
      ·have j1:(tx.size:Int)<(n:Int):=by omega
       have HWO:=hide (show Calls Tryd.prog 20 #[.pointer (some ⟨wb,0,none⟩),.string tx] w9 (WroteQ w wb sk g key text hd j (tx.size)) from piece_call HTX.out tx (tx.size) (by exact tx_all tx) (write_ok (tx.size) HOK.out HKY.out HX.out (by have:=HTS.out;have:=HJ.out;omega) HBE.out HNE.out.2.2.2 HSK2.out HNE.out.1 HNE.out.2.1 HNE.out.2.2.1))
       clear HOK HBE
       go_wp2_with fail
       refine HWO.out.mono ?_
       rintro e w10 ⟨hb10,⟨rfl,hok2⟩ | ⟨i,hi,rfl,hbad⟩⟩
       ·have H2:=hide hok2
        have HB10:=hide hb10
        clear hok2 hb10 HWO
        go_wp2
        go_roundw
        case rel=>exact ⟨j+(tx.size),k+1,by have:=HTS.out;have:=HJ.out;omega,by have:=HKJ.out;omega,congrArg Value.string (tx_drop HTX.out HJ.out (tx.size) (tx_end tx)),by go_num,HB10.out,.inl ⟨rfl,H2.out⟩⟩
        case measure=>have:=HKJ.out;simp[intOf,strLen];omega
       ·exact absurd hi (by omega)
      ·have j1:¬ (tx.size:Int)<(n:Int):=by omega
       have hn0:n=0:=by omega
       subst hn0
       have j2:¬ (100:Int)<(k:Int):=by omega
       have HWO:=hide (show Calls Tryd.prog 20 #[.pointer (some ⟨wb,0,none⟩),.string ByteArray.empty] w9 (WroteQ w wb sk g key text hd j (0)) from piece_call HTX.out ByteArray.empty (0) (by exact tx_none tx) (write_ok (0) HOK.out HKY.out HX.out (by have:=HTS.out;have:=HJ.out;omega) HBE.out HNE.out.2.2.2 HSK2.out HNE.out.1 HNE.out.2.1 HNE.out.2.2.1))
       clear HOK HBE
       go_wp2_with fail
       refine HWO.out.mono ?_
       rintro e w10 ⟨hb10,⟨rfl,hok2⟩ | ⟨i,hi,rfl,hbad⟩⟩
       ·have H2:=hide hok2
        have HB10:=hide hb10
        clear hok2 hb10 HWO
        go_wp2
        go_roundw
        case rel=>exact ⟨j+(0),k+1,by have:=HTS.out;have:=HJ.out;omega,by have:=HKJ.out;omega,congrArg Value.string (tx_drop HTX.out HJ.out (0) ((tx_all tx).symm)),by go_num,HB10.out,.inl ⟨rfl,H2.out⟩⟩
        case measure=>have:=HKJ.out;simp[intOf,strLen];omega
       ·exact absurd hi (Nat.not_lt_zero _)
    ·have hte:tx=ByteArray.empty:=ba_ext (by
      have h0:tx.data.toList.length=0:=by rw[ba_len];omega
      rw[List.eq_nil_of_length_eq_zero h0]
      rfl)
     have jk:¬ (k:Int)<2:=by omega
     have z2:decide ((k:Int)<2)=false:=decide_eq_false jk
     have hjx:j=text.size:=by have:=HTS.out;have:=HJ.out;omega
     have HCL:=hide (close_ok (w:=w) (by have h:=HOK.out;rw[hjx] at h;exact h) HKY.out HX.out HBE.out HNE.out.2.2.2 HSK2.out HNE.out.1)
     clear HOK HBE hjx HPI hgo
     subst hte
     go_wp2_with fail
     refine HCL.out.mono ?_
     rintro e w10 ⟨hb10,⟨rfl,K,hS,hg⟩ | ⟨rfl,hbad⟩⟩
     ·have hKf:K.got=full:=by rw[hg];exact (ba_ext HFL.out).symm
      have HGT:=sinkGot_any sk K.got w10 (hS.cell (i:=0) rfl)
      rw[hKf] at HGT
      have HG2:=hide HGT
      have HB10:=hide hb10
      clear hS hg hb10 HCL HGT hKf
      go_wp2_with fail
      refine HG2.out.mono ?_
      rintro e w11 ⟨rfl,rfl⟩
      clear HG2
      go_wp2
      go_ret
      exact ⟨rfl,HB10.out⟩
     ·have HB10:=hide hb10
      clear HCL hb10
      obtain ⟨hW,K,hS,r,hr,hF⟩:=hbad
      have hFF:full.data.toList=K.got.data.toList++r:=HFL.out.trans hF
      have HBN:=hide (fun w=>begins_any K.got full w r hFF)
      have hlt:(K.got.size:Int)<(full.size:Int):=by have:=Ref.Pre.lt (f:=full) (got:=K.got) ⟨r,hr,hFF⟩;omega
      have HGT:=hide (sinkGot_any sk K.got w10 (hS.cell (i:=0) rfl))
      have HWE:=hide (write_end wb 16 ⟨#[120]⟩ w10 hW (by decide))
      have HCE:=hide (fun m=>close_end wb 16 (w10.drewN m) (Blk.drewN hW m) (by decide))
      clear hW hS hr hF hFF
      go_wp2_with fail
      refine HGT.out.mono ?_
      rintro e w11 ⟨rfl,rfl⟩
      clear HGT
      go_wp2_with fail
      refine HWE.out.mono ?_
      rintro e w11 ⟨rfl,m1,rfl⟩
      clear HWE
      go_wp2_with fail
      refine (HCE.out m1).mono ?_
      rintro e w11 ⟨rfl,m2,rfl⟩
      clear HCE
      go_wp2_with fail
      refine (HBN.out _).mono ?_
      rintro e w11 ⟨rfl,rfl⟩
      clear HBN
      go_wp2
      go_ret
      exact ⟨rfl,below_drewN HB10.out (m1+m2)⟩
   ·clear HPI
    obtain ⟨hW,K,hS,r,hr,hF⟩:=hbad
    have hFF:full.data.toList=K.got.data.toList++r:=HFL.out.trans hF
    have HBN:=hide (fun w=>begins_any K.got full w r hFF)
    have hlt:(K.got.size:Int)<(full.size:Int):=by have:=Ref.Pre.lt (f:=full) (got:=K.got) ⟨r,hr,hFF⟩;omega
    have HGT:=hide (sinkGot_any sk K.got wr (hS.cell (i:=0) rfl))
    have HWE:=hide (write_end wb 16 ⟨#[120]⟩ wr hW (by decide))
    have HCE:=hide (fun m=>close_end wb 16 (wr.drewN m) (Blk.drewN hW m) (by decide))
    clear hW hS hr hF hFF
    go_wp2_with fail
    refine HGT.out.mono ?_
    rintro e w11 ⟨rfl,rfl⟩
    clear HGT
    go_wp2_with fail
    refine HWE.out.mono ?_
    rintro e w11 ⟨rfl,m1,rfl⟩
    clear HWE
    go_wp2_with fail
    refine (HCE.out m1).mono ?_
    rintro e w11 ⟨rfl,m2,rfl⟩
    clear HCE
    go_wp2_with fail
    refine (HBN.out _).mono ?_
    rintro e w11 ⟨rfl,rfl⟩
    clear HBN
    go_wp2
    go_ret
    exact ⟨rfl,below_drewN HBE.out (m1+m2)⟩
 ·obtain ⟨h16,r,hr,hF⟩:=Ref.new_bad HBG.out rfl text.data.toList hne
  rw[h16]
  obtain rfl:=hn1 hne
  generalize Ref.newK l d 0 ⟨⟨#[]⟩,pl,0⟩=K at *
  have hFF:full.data.toList=K.got.data.toList++r:=by rw[←HF.out];exact hF
  have HBN:=hide (fun w=>begins_any K.got full w r hFF)
  have hlt:(K.got.size:Int)<(full.size:Int):=by have:=Ref.Pre.lt (f:=full) (got:=K.got) ⟨r,hr,hFF⟩;omega
  have HGT:=hide (sinkGot_any sk K.got w8 (hS8.cell (i:=0) rfl))
  clear hn1 hn2 hS8 hne h16 hr hF hFF HM HL HF HFL
  go_wp2_with fail
  refine HGT.out.mono ?_
  rintro e w9 ⟨rfl,rfl⟩
  clear HGT
  go_wp2_with fail
  refine (HBN.out _).mono ?_
  rintro e w9 ⟨rfl,rfl⟩
  clear HBN
  go_wp2
  go_ret
  exact ⟨rfl,HBE8.out⟩
end Go.Proofs.YtngplkagmodgpaaDoor
namespace Go.Proofs.YtngplkagmodgpaaDoor
open Go.ChangeShapes Go.WideShapes Go.ChangeAt Go.RowKit Go.Deep
theorem own:ownKnob Tryd.prog.godebug=none:=by kernel_rfl
theorem gH : Tryd.prog.globalNamed "strongbox/sha2.firstWords" = some 0 := by kernel_rfl
theorem gK : Tryd.prog.globalNamed "strongbox/sha2.roundWords" = some 1 := by kernel_rfl
theorem gHt:(Tryd.prog.globals[0]?).map (·.type)=some 119:=by kernel_rfl
theorem gKt:(Tryd.prog.globals[1]?).map (·.type)=some 137:=by kernel_rfl
theorem c8:Tryd.prog.cellsOf 119=8:=by kernel_rfl
theorem c64:Tryd.prog.cellsOf 137=64:=by kernel_rfl
theorem c32:Tryd.prog.cellsOf 102=1:=by kernel_rfl
theorem tabs2 {W : World} (h' : laidMet Tryd.prog [("strongbox/sha2.firstWords", Lib.tabData .u32 (Sha.H0.list.map fun (n : Nat) => (n : Int))), ("strongbox/sha2.roundWords", Lib.tabData .u32 (Sha.Kt.map fun (n : Nat) => (n : Int)))] W) : HTab W ∧ KTab W := by
 have t1:=Lib.tabIs_of_head gH gHt Tryd.underlying119 Tryd.underlying102 c32 c8 h'
 have t2:=Lib.tabIs_of_head gK gKt Tryd.underlying137 Tryd.underlying102 c32 c64 h'.tail
 refine ⟨fun i hi=>?_,fun i hi=>?_⟩
 ·have hl:i<Sha.H0.list.length:=hi
  rw[t1.cell gH i (by simpa using hl)]
  simp[Sha.wAt,List.getD,hl]
 ·have hl:i<Sha.Kt.length:=hi
  rw[t2.cell gK i (by simpa using hl)]
  simp[Sha.wAt,List.getD,hl]
def laidIn (ns:List Nat):Obj→Obj
 | .cells _ t frozen=>.cells (ns.map fun (n:Nat)=>Value.int .u32 (n:Int)).toArray t frozen
 | o=>o
def laidWorld (P:Program) (os:Os):World:=
 { World.holding P os ⟨#[],#[],[]⟩ with heap:=((World.holding P os ⟨#[],#[],[]⟩).heap.modify 0 (laidIn Sha.H0.list)).modify 1 (laidIn Sha.Kt) }
theorem open_text0 {H:Type} {enc:TypeId × Value→H} {P:Program} {t:TypeId} (ht:P.underlying t=some .string) {W:World} {r:Reach} {b0 base:Nat} {sp:Nat→Bool} {held:Bool} {v:Value} {d:DataW H} {ps:List MemPlace} (hval:Value.okWide P W r b0 t v) (hd:DataW.Trod enc P W base sp held t v d ps):
  ∃ s:ByteArray,v = .string s∧d = .lit (.string s.data.toList)∧ps=[]∧s.size≤maxLen:=by
 obtain ⟨s,rfl⟩:=okWide_string ht hval
 obtain ⟨fuel,hf⟩:=hd
 obtain ⟨s',h,hx,hs⟩:=DataW.trod_string ht hf
 simp[Value.cells] at h
 subst h
 simp only[Prod.mk.injEq] at hx
 exact ⟨s,rfl,hx.1,hx.2,hs⟩
theorem shut_text0 {H:Type} {enc:TypeId × Value→H} {P:Program} {t:TypeId} (ht:P.underlying t=some .string) {W:World} {base:Nat} {sp:Nat→Bool} {held:Bool} {s:ByteArray} (hs:s.size≤maxLen):DataW.Trod enc P W base sp held t (.string s) (.lit (.string s.data.toList)) []:=
 ⟨1,by simp[DataW.trod,Value.cells,ht,hs]⟩
set_option maxRecDepth 100000 in
theorem open_text {H:Type} {enc:TypeId × Value→H} {W:World} {r:Reach} {b0 base:Nat} {sp:Nat→Bool} {held:Bool} {v:Value} {d:DataW H} {ps:List MemPlace} (hval:Value.okWide Tryd.prog W r b0 9 v) (hd:DataW.Trod enc Tryd.prog W base sp held 9 v d ps):
  ∃ s:ByteArray,v = .string s∧d = .lit (.string s.data.toList)∧ps=[]∧s.size≤maxLen:=open_text0 Tryd.underlying9 hval hd
set_option maxRecDepth 100000 in
theorem shut_text {H:Type} {enc:TypeId × Value→H} {W:World} {base:Nat} {sp:Nat→Bool} {held:Bool} {s:ByteArray} (hs:s.size≤maxLen):DataW.Trod enc Tryd.prog W base sp held 9 (.string s) (.lit (.string s.data.toList)) []:=shut_text0 Tryd.underlying9 hs
theorem open_int0 {H:Type} {enc:TypeId × Value→H} {P:Program} {t:TypeId} (ht:P.underlying t=some (.int .i64)) {W:World} {r:Reach} {b0 base:Nat} {sp:Nat→Bool} {held:Bool} {v:Value} {d:DataW H} {ps:List MemPlace} (hval:Value.okWide P W r b0 t v) (hd:DataW.Trod enc P W base sp held t v d ps):
  ∃ n:Int,v = .int .i64 n∧d = .lit (.int .i64 n)∧ps=[]∧(Lit.int .i64 n).wf=true:=by
 obtain ⟨n,rfl⟩:=okWide_int ht hval
 obtain ⟨fuel,hf⟩:=hd
 obtain ⟨m,h,hx,hs⟩:=DataW.trod_int ht hf
 simp[Value.cells] at h
 subst h
 simp only[Prod.mk.injEq] at hx
 exact ⟨n,rfl,hx.1,hx.2,hs⟩
set_option maxRecDepth 100000 in
theorem open_intA {H:Type} {enc:TypeId × Value→H} {W:World} {r:Reach} {b0 base:Nat} {sp:Nat→Bool} {held:Bool} {v:Value} {d:DataW H} {ps:List MemPlace} (hval:Value.okWide Tryd.prog W r b0 3 v) (hd:DataW.Trod enc Tryd.prog W base sp held 3 v d ps):
  ∃ n:Int,v = .int .i64 n∧d = .lit (.int .i64 n)∧ps=[]∧(Lit.int .i64 n).wf=true:=open_int0 Tryd.underlying3 hval hd
set_option maxRecDepth 100000 in
theorem shut_intA {H:Type} {enc:TypeId × Value→H} {W:World} {base:Nat} {sp:Nat→Bool} {held:Bool} {n:Int} (hn:(Lit.int .i64 n).wf=true):DataW.Trod enc Tryd.prog W base sp held 3 (.int .i64 n) (.lit (.int .i64 n)) []:=
 ⟨1,Go.ChangeShapes.trod_int_mk 0 Tryd.underlying3 hn⟩
theorem wfB {n:Int} (h:(Lit.int .i64 n).wf=true) : -9223372036854775808≤n∧n≤9223372036854775807:=by
 simp only[Lit.wf,Bool.and_eq_true,decide_eq_true_eq] at h
 have h1:IntKind.i64.min = -9223372036854775808:=rfl
 have h2:IntKind.i64.max=9223372036854775807:=rfl
 omega
theorem mk4 {H:Type} {enc:TypeId × Value→H} {P:Program} {w:World} {base:Nat} {sp:Nat→Bool} {held:Bool} {t t' t'' t3:TypeId} {v v' v'' v3:Value} {d d' d'' d3:DataW H} (h:DataW.Trod enc P w base sp held t v d []) (h':DataW.Trod enc P w base sp held t' v' d' []) (h'':DataW.Trod enc P w base sp held t'' v'' d'' []) (h3:DataW.Trod enc P w base sp held t3 v3 d3 []):
  DataW.TrodAll enc P w base sp held [t,t',t'',t3] [v,v',v'',v3] [d,d',d'',d3] []:=⟨[],[],h,trodAll_mk3 h' h'' h3,rfl⟩
set_option maxRecDepth 100000 in
theorem failsLaw_any (s t:ByteArray) (a b:Int) (w:World) (hs:s.size≤maxLen) (ht:t.size≤maxLen) (a1 : -9223372036854775808≤a) (a2:a≤9223372036854775807) (b1 : -9223372036854775808≤b) (b2:b≤9223372036854775807) (hT:Tabs w):
  Calls Tryd.prog 4 #[.string s,.string t,.int .i64 a,.int .i64 b] w fun e w'=>e = .returned (.bool true)∧Below w.heap.size w w':=by
 unfold maxLen at hs ht
 by_cases h1:268435456<s.size
 ·have z1:(decide ((268435456:Int)<(s.size:Int)))=true:=by simp;omega
  go_enter Tryd.func4,Tryd.ntmps4
  go_wp2
  go_ret
  exact ⟨rfl,Below.refl _ _⟩
 ·have z1:(decide ((268435456:Int)<(s.size:Int)))=false:=by simp;omega
  by_cases h3:268435456<t.size
  ·have z2:(decide ((268435456:Int)<(t.size:Int)))=true:=by simp;omega
   go_enter Tryd.func4,Tryd.ntmps4
   go_wp2
   go_ret
   exact ⟨rfl,Below.refl _ _⟩
  ·have z2:(decide ((268435456:Int)<(t.size:Int)))=false:=by simp;omega
   have HF:=hide (fails_any s t a b w hT (by omega) (by omega) a1 a2 b1 b2)
   go_enter Tryd.func4,Tryd.ntmps4
   go_wp2_with fail
   refine HF.out.mono ?_
   rintro e w1 ⟨rfl,hb1⟩
   have HB:=hide hb1
   clear hb1 HF
   go_wp2
   go_ret
   exact ⟨rfl,HB.out⟩
set_option maxRecDepth 100000 in
theorem fails_contract (H:Type) (enc:TypeId × Value→H) (W:World) (base:Nat) (args:Array Value) (ds gs:List (DataW H)) (before:List MemPlace)
  (hval:∀ (j:Nat) t v,Tryd.f4.params[j]? = some t→args[j]? = some v→Value.okWide Tryd.prog W .any base t v)
  (hW:DataW.Whole enc Tryd.prog Tryd.f4.params.toList Rows.failsSpec.vars false W args.toList ds gs before)
  (hL:laidMetH Tryd.prog Rows.failsRow.laid W):
  Calls Tryd.prog 4 args W fun e W'=>∃ v,e = .returned v∧Rows.failsSpec.post enc Tryd.prog Tryd.f4 false true false false W args v W':=by
 have hW':=hW
 obtain ⟨p,q,hA0,hV,rfl,hfz,hnd⟩:=hW
 have hA:DataW.TrodAll enc Tryd.prog W 0 (fun _=>true) true Tryd.f4.params.toList args.toList ds p:=hA0
 rw[Tryd.params4] at hA hval
 obtain ⟨v0,v1,v2,v3,d0,d1,d2,d3,p0,p1,p2,p3,rfl,rfl,rfl,h0,h1,h2,h3⟩:=trodAll_four hA
 obtain ⟨rfl,rfl⟩:=trodVars_none hV
 obtain ⟨s,rfl,rfl,rfl,hs⟩:=open_text (hval 0 9 v0 rfl rfl) h0
 obtain ⟨t,rfl,rfl,rfl,ht⟩:=open_text (hval 1 9 v1 rfl rfl) h1
 obtain ⟨a,rfl,rfl,rfl,hia⟩:=open_intA (hval 2 3 v2 rfl rfl) h2
 obtain ⟨b,rfl,rfl,rfl,hib⟩:=open_intA (hval 3 3 v3 rfl rfl) h3
 clear hA0 hfz hnd
 simp only[List.append_nil] at hW'
 obtain ⟨hh,hk⟩:=tabs2 hL
 have h2:2≤W.heap.size:=World.block_lt_of_cell? W _ (hk 0 (by decide))
 refine (failsLaw_any s t a b W hs ht (wfB hia).1 (wfB hia).2 (wfB hib).1 (wfB hib).2 ⟨hk,hh,h2⟩).mono fun e W' ⟨he,hb⟩=>?_
 subst he
 refine ⟨_,rfl,_,_,_,[],[],[],hW',?_,mk4 (shut_text hs) (shut_text ht) (shut_intA hia) (shut_intA hib),rfl,hb.frame _,fun h=>by cases h⟩
 exact trodAll_mk1 (shut_bool Tryd.underlying4 _)
theorem fails_laid_met (os:Os):laidMet Tryd.prog Rows.failsRow.laid ((laidWorld Tryd.prog os).forCall (fun _ _=>0) ⟨#[],#[.string ⟨#[]⟩,.string ⟨#[]⟩,.int .i64 0,.int .i64 0],[]⟩).memory:=
 laidMet_of_run' 8 (by kernel_rfl) (by kernel_rfl)
theorem fails_reads (os:Os) {H:Type} (enc:TypeId × Value→H):∃ places,DataW.whole enc Tryd.prog ((laidWorld Tryd.prog os).forCall (fun _ _=>0) ⟨#[],#[.string ⟨#[]⟩,.string ⟨#[]⟩,.int .i64 0,.int .i64 0],[]⟩).memory Tryd.f4.params.toList Rows.failsSpec.vars false #[Value.string ⟨#[]⟩,Value.string ⟨#[]⟩,Value.int .i64 0,Value.int .i64 0].toList 8=some ([.lit (.string []),.lit (.string []),.lit (.int .i64 0),.lit (.int .i64 0)],[],places):=
 ⟨[],by kernel_rfl⟩
set_option maxRecDepth 100000 in
theorem fails_lifted (os:Os) (started:os.Started) (H:Type) (enc:TypeId × Value→H) (F:Stop.Interp):
  ReturnsInHanded {} Tryd.checked os 4 .any ((OpenSpec.ofChange Rows.failsSpec).preRow enc Tryd.prog Tryd.f4 Rows.failsRow.domain false Rows.failsRow.laid) (((OpenSpec.ofChange Rows.failsSpec).at F).post enc Tryd.prog Tryd.f4 false true false false):=by
 obtain ⟨places,hx⟩:=fails_reads os enc
 refine returnsInHanded_of_row (C:=Tryd.checked) (s:=OpenSpec.ofChange Rows.failsSpec) own started (by kernel_rfl) Tryd.func4
  (witness_row_at (enc:=enc) (C:=Tryd.checked) false (laidWorld Tryd.prog os) #[.string ⟨#[]⟩,.string ⟨#[]⟩,.int .i64 0,.int .i64 0] rfl (by kernel_rfl) (by kernel_rfl) (by kernel_rfl)
   (OpenSpec.preRow_of_cond 8 hx (by kernel_rfl) (fun k hk=>by cases hk) (by kernel_rfl) (fails_laid_met os))) ?_
 intro W base args ds gs before hval hW _ _ _ hL _ _
 exact fails_contract H enc W base args ds gs before hval hW hL
theorem fails_j1:Tryd.prog.inPlace 4=Rows.failsRow.inPlace:=by kernel_rfl
theorem fails_j2:Tryd.prog.unfollowed 4=Rows.failsRow.unfollowed:=by kernel_rfl
theorem fails_j3:Tryd.prog.recurses 4=Rows.failsRow.recurses:=by kernel_rfl
theorem fails_j4:Tryd.prog.varsNamed 4=Rows.failsRow.named:=by kernel_rfl
theorem fails_j:joinedFacts Tryd.prog 4 Tryd.f4 (OpenSpec.ofChange Rows.failsSpec).bare Rows.failsRow=true:=by
 unfold joinedFacts
 rw[fails_j1,fails_j2,fails_j3,fails_j4]
 kernel_rfl
theorem fails_said:Rows.FailsSaid:=
 OpenClaim.holds_of_cond 4 Tryd.f4 rfl rfl rfl rfl rfl rfl rfl ⟨rfl,rfl,rfl,rfl,rfl⟩ rfl rfl rfl rfl rfl (by kernel_rfl) Tryd.func4 fails_j
  (of_decide_eq_true (by kernel_rfl)) (by unfold Func.isWrapper;first | (rw[if_pos (by decide +kernel)];kernel_rfl) | (rw[if_neg (by decide +kernel)];exact ⟨rfl,rfl⟩))
  (fun os started H enc _ F=>by rw[OpenClaim.pre_eq_preRow];exact fails_lifted os started H enc F)
theorem fails_plain (f : FuncId) (fn : Func) (hf : Tryd.pinned.checked.prog.funcNamed "strongbox/strongboxkeep.Fails" = some f) (hfn : Tryd.pinned.checked.prog.funcs[f]? = some fn) :
  false = Tryd.pinned.checked.prog.looks []∧∀ (j:Nat) t,fn.params[j]? = some t→Tryd.pinned.checked.prog.wantsStandIn t=false:=by
 obtain rfl : f = 4 := Option.some.inj ((show Tryd.prog.funcNamed "strongbox/strongboxkeep.Fails" = some 4 by kernel_rfl).symm.trans hf) |>.symm
 obtain rfl:fn = Tryd.f4:=(Option.some.inj (Tryd.func4.symm.trans hfn)).symm
 refine ⟨by kernel_rfl,fun j t ht=>?_⟩
 rw[Tryd.params4] at ht
 have hm:t=9∨t=3:=by simpa using Array.mem_of_getElem? ht
 rcases hm with rfl | rfl
 ·exact (show Tryd.prog.wantsStandIn 9=false by kernel_rfl)
 ·exact (show Tryd.prog.wantsStandIn 3=false by kernel_rfl)
theorem fails_card:Rows.FailsCardSaid:=
 Claim7.holds_tied_plain_at .later [] _ _ _ _ (fails_said) (fun _ h=>by cases h) (by kernel_rfl) (fun _ h=>by cases h) fails_row_tie rfl ⟨rfl,rfl⟩ (by kernel_rfl) rfl fails_plain (by kernel_rfl)
end Go.Proofs.YtngplkagmodgpaaDoor
