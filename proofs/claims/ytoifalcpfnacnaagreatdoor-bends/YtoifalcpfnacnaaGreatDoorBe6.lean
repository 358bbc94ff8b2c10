import Derived.Test.YtoifalcpfnacnaaGreatDoorBe5
namespace Go.Proofs.YtoifalcpfnacnaaGreatDoor
open Go.RowKit
theorem scells_words (S:List Nat) (v:Value) (w:World) (b:Nat) (t:TypeId) (h:Blk w b t (u32V S++[v])):w.rangeAt b 0 (u32V S):=fun j u hu=>by
 rw[Nat.zero_add]
 refine h.cell ?_
 rw[List.getElem?_append_left (List.getElem?_eq_some_iff.1 hu).1]
 exact hu
theorem scells_next (S:List Nat) (v:Value) (hS:S.length=16):(u32V S++[v])[16]? = some v:=by
 rw[List.getElem?_append_right (by rw[u32V_len,hS];exact Nat.le_refl _),u32V_len,hS];rfl
theorem scells_put (S:List Nat) (v u:Value) (hS:S.length=16):(u32V S++[v]).set 16 u=u32V S++[u]:=by
 rw[List.set_append_right _ _ (by rw[u32V_len,hS];exact Nat.le_refl _),u32V_len,hS];rfl
theorem strm_nums (P:Nat) (h:P<274877906944):∃ at_ q P1:Nat,at_=P%64∧q=P/64∧P1=P+1∧(P:Int).tmod 64=(at_:Int)∧(P:Int)%64=(at_:Int)∧(P:Int).tdiv 64=(q:Int)∧(P:Int)/64=(q:Int)∧(q:Int)%4294967296=(q:Int)∧(at_:Int)<64∧at_<64 ∧
  IntKind.u64.wrap ((P:Int)+1)=(P1:Int)∧((P:Int)+1)%18446744073709551616=(P1:Int)∧(P:Int)+1=(P1:Int)∧IntKind.u64.wrap (at_:Int)=(at_:Int)∧IntKind.u64.wrap (q:Int)=(q:Int)∧IntKind.u32.wrap (q:Int)=(q:Int)∧q<4294967296:=by
 refine ⟨P%64,P/64,P+1,rfl,rfl,rfl,?_,by omega,?_,by omega,by omega,by omega,by omega,?_,by omega,by omega,?_,?_,?_,by omega⟩
 ·rw[Int.tmod_eq_emod_of_nonneg (by omega)];omega
 ·rw[Int.tdiv_eq_ediv_of_nonneg (by omega)];omega
 ·exact (IntWalk.u64_in _ (by omega)).trans (by omega)
 ·exact IntWalk.u64_in _ (by omega)
 ·exact IntWalk.u64_in _ (by omega)
 ·rw[IntKind.wrap_u32'];omega
theorem ks_at (key nonce:List UInt8) (n used i:Nat) (kb:List UInt8) (P:Nat) (hP:P=n*64+used+i) (hk:kb=Cha.block key nonce (P/64)):Cha.ks key nonce n (used+i)=kb.getD (P%64) 0:=by
 unfold Cha.ks
 rw[hk,hP,show n*64+used+i=used+i+64*n by omega,Nat.add_mul_div_left _ _ (by decide),Nat.add_mul_mod_self_left,Nat.add_comm n]
theorem int_ne0 {i:Nat} (h:i≠0):((i:Int)==0)=false:=beq_eq_false_iff_ne.2 (by omega)
theorem int_eq0 {i:Nat} (h:i=0):((i:Int)==0)=true:=beq_iff_eq.2 (by omega)
theorem xs_blk {w:World} {b g P:Nat} {S:List Nat} {kb:List UInt8} {t t2:TypeId} (hB:Blk w b t (u32V S++[.int .u64 (P:Nat)])) (hK:Blk w g t2 (u8V kb)) (hk:kb.length=64) (hS:S.length=16):
  w.rangeAt b 0 (u32V S)∧w.cell? ⟨b,16,none⟩=some (.int .u64 (P:Nat))∧w.there g 0 64:=
 ⟨scells_words _ _ _ _ _ hB,hB.cell (scells_next _ _ hS),hK.there 0 64 (by rw[u8V_len,hk];exact Nat.le_refl _)⟩
theorem Row.below {w w':World} {base:Nat} {e:TypeId} {size:Nat} {v:Value} {n:Nat} {xs:List Value} (h:Row w base e size v n xs) (hb:Below w.heap.size w w'):Row w' base e size v n xs:=
 h.kept (hb.grownBy none) (by cases v.ownBlock <;> simp)
theorem xs_start {w:World} {b g P:Nat} {S:List Nat} {kb:List UInt8} {t t2:TypeId} (hB:Blk w b t (u32V S++[.int .u64 (P:Nat)])) (hK:Blk w g t2 (u8V kb)) (hk:kb.length=64) (hS:S.length=16):
  w.drew.rangeAt b 0 (u32V S)∧w.drew.cell? ⟨b,16,none⟩=some (.int .u64 (P:Nat))∧w.drew.there g 0 64:=
 ⟨scells_words _ _ _ _ _ hB.drew,hB.drew.cell (scells_next _ _ hS),hK.drew.there 0 64 (by rw[u8V_len,hk];exact Nat.le_refl _)⟩
theorem xs_below {w w':World} {b g P B:Nat} {S:List Nat} (h:w.rangeAt b 0 (u32V S)∧w.cell? ⟨b,16,none⟩=some (.int .u64 (P:Nat))∧w.there g 0 64) (hb:Below B w w') (h1:b<B) (h2:g<B):
  w'.rangeAt b 0 (u32V S)∧w'.cell? ⟨b,16,none⟩=some (.int .u64 (P:Nat))∧w'.there g 0 64:=
 ⟨h.1.below hb h1,(hb.cell (show b<B from h1)).trans h.2.1,h.2.2.below hb h2⟩
def KB (key nonce:List UInt8) (p i:Nat) (kb:List UInt8):Prop:=kb.length=64∧(0<i→kb=Cha.block key nonce ((p+i-1)/64))
theorem KB.stay {key nonce:List UInt8} {p i:Nat} {kb:List UInt8} (h:KB key nonce p i kb) (hi:0<i) (hP:(p+i)%64≠0):kb=Cha.block key nonce ((p+i)/64):=by
 rw[h.2 hi,show (p+i-1)/64=(p+i)/64 by omega]
set_option maxRecDepth 100000 in
set_option maxHeartbeats 4000000 in
theorem xor_ok:XorOK:=by
 intro key nonce n used text T c b w hk hno hn hu ht hrep
 obtain ⟨hp0,hB,hTb⟩:=hrep
 unfold scells at hB
 have hok:=Cha.state_ok key.data.toList nonce.data.toList 0 (by decide)
 have hSL:=hok.1
 have hbl:=hB.lt
 unfold ansV
 by_cases hsp:(4294967296-n)*64<used+text.size
 ·have hx:Cha.xorAns key nonce n used text=([],3):=by unfold Cha.xorAns;rw[if_pos hsp]
  rw[hx]
  obtain ⟨p,hp⟩:∃ p:Nat,p=n*64+used:=⟨_,rfl⟩
  rw[←hp] at hB hp0
  have c16:=hB.cell (scells_next _ _ hSL)
  obtain ⟨d,hd⟩:∃ d:Nat,d=274877906944-p:=⟨_,rfl⟩
  have e1:IntKind.u64.wrap (274877906944-(p:Int))=(d:Int):=(IntWalk.u64_in _ (by omega)).trans (by omega)
  have e2:IntKind.u64.wrap (text.size:Int)=(text.size:Int):=IntWalk.u64_in _ (by omega)
  have e3:(274877906944-(p:Int))%18446744073709551616=(d:Int):=by omega
  have e4:(text.size:Int)%18446744073709551616=(text.size:Int):=by omega
  have e5:(274877906944-(p:Int))=(d:Int):=by omega
  have j1:(d:Int)<(text.size:Int):=by omega
  have FIN:=hide (show SRep (fresh T w c) w c b key.data.toList nonce.data.toList n used from ⟨by omega,by unfold scells;rw[←hp];exact hB,(fresh_old T w c b hbl).trans hTb⟩)
  clear hsp hx hp hd hp0 hB hTb hk hno hn hu ht hok hSL
  go_enter Tryz.func71,Tryz.ntmps71
  go_wp2
  refine bodyPost_ret (results_tmp2 rfl _ _ _) rfl ?_
  exact ⟨rfl,FIN.out,Stays.of_below c (Below.refl _ _)⟩
 ·have hx:Cha.xorAns key nonce n used text=(Cha.xorL key.data.toList nonce.data.toList n used text.data.toList text.size,0):=by unfold Cha.xorAns;rw[if_neg hsp]
  rw[hx]
  obtain ⟨p,hp⟩:∃ p:Nat,p=n*64+used:=⟨_,rfl⟩
  rw[←hp] at hB hp0
  have c16:=hB.cell (scells_next _ _ hSL)
  obtain ⟨d,hd⟩:∃ d:Nat,d=274877906944-p:=⟨_,rfl⟩
  have hend:p+text.size≤274877906944:=by omega
  have e1:IntKind.u64.wrap (274877906944-(p:Int))=(d:Int):=(IntWalk.u64_in _ (by omega)).trans (by omega)
  have e2:IntKind.u64.wrap (text.size:Int)=(text.size:Int):=IntWalk.u64_in _ (by omega)
  have e3:(274877906944-(p:Int))%18446744073709551616=(d:Int):=by omega
  have e4:(text.size:Int)%18446744073709551616=(text.size:Int):=by omega
  have e5:(274877906944-(p:Int))=(d:Int):=by omega
  have j1:¬ (d:Int)<(text.size:Int):=by omega
  have FIN:=hide (show ∀ w',Blk w' b 158 (u32V (Cha.state key.data.toList nonce.data.toList 0)++[.int .u64 ((p+text.size:Nat):Int)])→w.grownBy w' (some b)→SRep (fresh T w c) w' c b key.data.toList nonce.data.toList n (if (0:Int)=0 then used+text.size else used)∧Stays T (fresh T w c) w w' (fun x=>x=c) from fun w' h1 h2=>⟨⟨by rw[if_pos rfl];omega,by unfold scells;rw[if_pos rfl,←Nat.add_assoc,←hp];exact h1,(fresh_old T w c b hbl).trans hTb⟩,Stays.of_grown c b h2 hTb⟩)
  have MB:=hide (fun m (hm:m<4294967296) w=>makeBlock_any (Cha.state key.data.toList nonce.data.toList 0) m w hok hm)
  have XS:=hide (Cha.xorL_succ key.data.toList nonce.data.toList n used text.data.toList)
  have X0:=hide (show Cha.xorL key.data.toList nonce.data.toList n used text.data.toList 0=[] from rfl)
  have KS:=hide (fun i kb P=>ks_at key.data.toList nonce.data.toList n used i kb P)
  rw[←hp] at KS
  simp only[block_of] at MB
  generalize Cha.xorL key.data.toList nonce.data.toList n used text.data.toList=xl at *
  have HKB:=hide (fun i kb=>@KB.stay key.data.toList nonce.data.toList p i kb)
  have BL:=hide (Cha.block_len key.data.toList nonce.data.toList)
  obtain ⟨kbP,hkbP⟩:∃ f,f=KB key.data.toList nonce.data.toList p:=⟨_,rfl⟩
  have KB0:=hide (show ∀ kb:List UInt8,kb.length=64→kbP 0 kb from fun kb h=>by rw[hkbP];exact ⟨h,fun h=>absurd h (Nat.lt_irrefl _)⟩)
  have KBL:=hide (show ∀ i kb,kbP i kb→kb.length=64 from fun i kb h=>by rw[hkbP] at h;exact h.1)
  have KBS:=hide (show ∀ i kb,kbP i kb→0<i→(p+i)%64≠0→kb=Cha.block key.data.toList nonce.data.toList ((p+i)/64) from fun i kb h=>by rw[hkbP] at h;exact h.stay)
  have KBN:=hide (show ∀ i kb,kb=Cha.block key.data.toList nonce.data.toList ((p+i)/64)→kbP (i+1) kb from fun i kb h=>by rw[hkbP];exact ⟨by rw[h,BL.out],fun _=>h⟩)
  clear hkbP HKB
  generalize Cha.block key.data.toList nonce.data.toList=blk at *
  generalize Cha.state key.data.toList nonce.data.toList 0=S at *
  have HSL:=hide hSL
  have HEND:=hide hend
  have HB:=hide hB
  have ht2:text.size≤1099511627:=ht
  clear hsp hx hp hd hp0 hB hTb hk hno hn hu hok hSL hend ht
  go_enter Tryz.func71,Tryz.ntmps71
  go_wp2
  clear e1 e2 e3 e4 e5 j1
  refine wp_letterW (fun w'=>Blk w' b 158 (u32V S++[.int .u64 ((p:Nat):Int)])∧Blk w' w.heap.size 5 []∧Blk w' (w.heap.size+1) 163 (u8V (zeros8 64))∧w.grownBy w' (some b)∧w.heap.size+1<w'.heap.size) ⟨(HB.out.alloc _).alloc _,(Blk.new rfl rfl).alloc _,Blk.new (by simp) rfl,((World.grownBy.refl w _).alloc _).alloc _,by simp⟩ ?_
  rintro wb ⟨hB1,hE1,hK1,hG1,hs1⟩
  have HB1:=hide hB1
  have HE1:=hide hE1
  have HK1:=hide hK1
  have HG1:=hide hG1
  clear hB1 hE1 hK1 hG1 HB c16
  go_loopw [6,8] (fun vo vi wr=>∃ (i:Nat) (kb:List UInt8),i≤text.size∧vi = .int .i64 (i:Nat)∧kbP i kb∧Row wr w.heap.size 5 1 vo i (u8L (xl i))∧vo.ownBlock≠some (w.heap.size+1)∧Blk wr b 158 (u32V S++[.int .u64 ((p+i:Nat):Int)])∧Blk wr (w.heap.size+1) 163 (u8V kb)∧w.grownBy wr (some b)∧w.heap.size+1<wr.heap.size) (fun _ i _=>text.size-(intOf i).toNat)
  case atStart=>exact ⟨0,zeros8 64,by omega,rfl,KB0.out _ (by simp[zeros8]),by rw[X0.out];exact Row.zero (Nat.le_refl _) HE1.out,by simp[Value.ownBlock],HB1.out,HK1.out,HG1.out,hs1⟩
  case round=>
   clear HB1 HE1 HK1 HG1 hs1
   obtain ⟨i,kb,hi,rfl,hkb,hrow,hown,hB,hK,hG,hsz⟩:=hrel
   by_cases hlt:i<text.size
   ·obtain ⟨P,hP⟩:∃ P:Nat,P=p+i:=⟨_,rfl⟩
    rw[←hP] at hB
    have ji:(i:Int)<(text.size:Int):=by omega
    have hbw:b<wr.heap.size:=by omega
    have nn:b≠w.heap.size+1:=by omega
    have hi40:i+1≤1099511627776:=by omega
    have hP38:P<274877906944:=by have:=HEND.out;omega
    obtain ⟨a0,q,P1,ha0,hq,hP1,t1,t2,t3,t4,t5,t6,ha64,t7,t8,t9,t10,t11,t12,hq32⟩:=strm_nums P hP38
    have NUM:=hide (And.intro t7 (And.intro t8 t9))
    clear t7 t8 t9 hP38
    have c16:=hB.cell (scells_next _ _ HSL.out)
    have hyk:=fun kb h=>KS.out i kb P hP h
    rw[←hq,←ha0] at hyk
    have HYK:=hide hyk
    have NEXT:=hide (show ∀ kb,kb=blk q→kbP (i+1) kb from fun kb h=>KBN.out i kb (by rw[h,hq,hP]))
    have SAME:=hide (show i≠0→a0≠0→kb=blk q from fun h1 h2=>by rw[hq,hP];exact KBS.out i kb hkb (Nat.pos_of_ne_zero h1) (by rw[←hP,←ha0];exact h2))
    have HPP:=hide (show P1=p+(i+1) by rw[hP1,hP,Nat.add_assoc])
    have hkl:=KBL.out i kb hkb
    have HKL:=hide hkl
    have MBq:=hide (MB.out q hq32)
    have LQ:=hide (BL.out q)
    clear hyk hP ha0 hq hP1 hkb hkl hq32
    have HROW:=hide hrow
    have HOWN:=hide hown
    have HB:=hide hB
    have HK:=hide hK
    have HG:=hide hG
    clear hrow hown hB hK hG
    by_cases hi0:i=0
    ·have z1:=int_eq0 hi0
     clear hi0
     clear SAME
     have U1:Tryz.prog.underlying 155=some (.array 16 150):=Tryz.underlying155
     have U2:Tryz.prog.underlying 163=some (.array 64 5):=Tryz.underlying163
     have I1:(Tryz.prog.info? 155).map (·.size)=some (u32V S).length:=by rw[u32V_len,HSL.out];exact info16
     have I2:(Tryz.prog.info? 163).map (·.size)=some (u8V (blk q)).length:=by rw[u8V_len,LQ.out];exact info64b
     have L1:(u32V S).length=16:=by rw[u32V_len,HSL.out]
     have L2:(u8V (blk q)).length=64:=by rw[u8V_len,LQ.out]
     have O1:=u32V_one S
     have O2:=u8V_one (blk q)
     go_wp2
     refine wp_letterA (fun A0 hA0=>?_)
     have f0x0:A0.eval (.tmp 0) = .pointer (some ⟨b,0,none⟩):=by rw[hA0];rfl
     have f0x7:A0.eval (.tmp 7) = .pointer (some ⟨w.heap.size+1,0,none⟩):=by rw[hA0];rfl
     have z0:A0.tmps.size=67:=by rw[hA0];rfl
     have HA0:=hide hA0
     clear hA0
     refine wp_region_held_drew (S:=fun w'=>w'.rangeAt b 0 (u32V S)∧w'.cell? ⟨b,16,none⟩=some (.int .u64 (P:Nat))∧w'.there (w.heap.size+1) 0 64) (by kernel_rfl) (xs_start HB.out HK.out HKL.out HSL.out) (fun hS=>?_)
     refine wpAnyH_take (i:=0) (v:=.pointer (some ⟨b,0,none⟩)) rfl (by kernel_rfl) (by kernel_rfl) (by kernel_rfl) (fun _ _ _ h=>h) (Yields.yieldsIf (Or.inl ⟨by rfl,fun w=>?_⟩)) hS ?_
     ·rw[run_move (.tmp 0) rfl,f0x0]
     change wpAnyH _ _ _ _ _ _ _ (Act.put _ (some 37) _) _
     generalize hA1:Act.put A0 (some 37) _=A1
     have f1x0:A1.eval (.tmp 0) = .pointer (some ⟨b,0,none⟩):=by rw[←hA1];exact (Act.eval_other _ _ _ _ (by decide)).trans f0x0
     have f1x7:A1.eval (.tmp 7) = .pointer (some ⟨w.heap.size+1,0,none⟩):=by rw[←hA1];exact (Act.eval_other _ _ _ _ (by decide)).trans f0x7
     have f1x37:A1.eval (.tmp 37) = .pointer (some ⟨b,0,none⟩):=by rw[←hA1];exact Act.eval_same _ _ _ (by rw[z0];decide)
     have z1:A1.tmps.size=67:=by rw[←hA1];exact (Act.put_size _ _ _).trans z0
     refine wpAnyH_take (i:=1) (v:=.pointer (some ⟨b,0,none⟩)) rfl (by kernel_rfl) (by kernel_rfl) (by kernel_rfl) (fun _ _ _ h=>h) (Yields.yieldsIf (Or.inl ⟨by rfl,fun w=>?_⟩)) hS ?_
     ·exact run_nilCheck (.tmp 37) _ rfl f1x37
     change wpAnyH _ _ _ _ _ _ _ (Act.put _ (some 38) _) _
     generalize hA2:Act.put A1 (some 38) _=A2
     have f2x0:A2.eval (.tmp 0) = .pointer (some ⟨b,0,none⟩):=by rw[←hA2];exact (Act.eval_other _ _ _ _ (by decide)).trans f1x0
     have f2x7:A2.eval (.tmp 7) = .pointer (some ⟨w.heap.size+1,0,none⟩):=by rw[←hA2];exact (Act.eval_other _ _ _ _ (by decide)).trans f1x7
     have f2x38:A2.eval (.tmp 38) = .pointer (some ⟨b,0,none⟩):=by rw[←hA2];exact Act.eval_same _ _ _ (by rw[z1];decide)
     have z2:A2.tmps.size=67:=by rw[←hA2];exact (Act.put_size _ _ _).trans z1
     refine wpAnyH_take (i:=2) (v:=.pointer (some ⟨b,0,none⟩)) rfl (by kernel_rfl) (by kernel_rfl) (by kernel_rfl) (fun _ _ _ h=>h) (Yields.yieldsIf (Or.inl ⟨by rfl,fun w=>?_⟩)) hS ?_
     ·unfold execOp;rw[show (Oper.op _)=Op.fieldAddr 158 (.tmp 38) 0 from rfl];simp only[f2x38];go_simp
     change wpAnyH _ _ _ _ _ _ _ (Act.put _ (some 39) _) _
     generalize hA3:Act.put A2 (some 39) _=A3
     have f3x0:A3.eval (.tmp 0) = .pointer (some ⟨b,0,none⟩):=by rw[←hA3];exact (Act.eval_other _ _ _ _ (by decide)).trans f2x0
     have f3x7:A3.eval (.tmp 7) = .pointer (some ⟨w.heap.size+1,0,none⟩):=by rw[←hA3];exact (Act.eval_other _ _ _ _ (by decide)).trans f2x7
     have f3x39:A3.eval (.tmp 39) = .pointer (some ⟨b,0,none⟩):=by rw[←hA3];exact Act.eval_same _ _ _ (by rw[z2];decide)
     have z3:A3.tmps.size=67:=by rw[←hA3];exact (Act.put_size _ _ _).trans z2
     refine wpAnyH_take (i:=3) (v:=.agg (u32V S).toArray) rfl (by kernel_rfl) (by kernel_rfl) (by kernel_rfl) (fun _ _ _ h=>h) (yieldsIf_load_mid (by rfl) 155 (.tmp 39) rfl (b) 0 f3x39 (u32V S) (.array 16 150) (fun w h=>h.1) U1 rfl I1) hS ?_
     change wpAnyH _ _ _ _ _ _ _ (Act.put _ (some 40) _) _
     generalize hA4:Act.put A3 (some 40) _=A4
     have f4x0:A4.eval (.tmp 0) = .pointer (some ⟨b,0,none⟩):=by rw[←hA4];exact (Act.eval_other _ _ _ _ (by decide)).trans f3x0
     have f4x7:A4.eval (.tmp 7) = .pointer (some ⟨w.heap.size+1,0,none⟩):=by rw[←hA4];exact (Act.eval_other _ _ _ _ (by decide)).trans f3x7
     have f4x40:A4.eval (.tmp 40) = .agg (u32V S).toArray:=by rw[←hA4];exact Act.eval_same _ _ _ (by rw[z3];decide)
     have z4:A4.tmps.size=67:=by rw[←hA4];exact (Act.put_size _ _ _).trans z3
     refine wpAnyH_take (i:=4) (v:=.pointer (some ⟨b,0,none⟩)) rfl (by kernel_rfl) (by kernel_rfl) (by kernel_rfl) (fun _ _ _ h=>h) (Yields.yieldsIf (Or.inl ⟨by rfl,fun w=>?_⟩)) hS ?_
     ·rw[run_move (.tmp 0) rfl,f4x0]
     change wpAnyH _ _ _ _ _ _ _ (Act.put _ (some 41) _) _
     generalize hA5:Act.put A4 (some 41) _=A5
     have f5x7:A5.eval (.tmp 7) = .pointer (some ⟨w.heap.size+1,0,none⟩):=by rw[←hA5];exact (Act.eval_other _ _ _ _ (by decide)).trans f4x7
     have f5x40:A5.eval (.tmp 40) = .agg (u32V S).toArray:=by rw[←hA5];exact (Act.eval_other _ _ _ _ (by decide)).trans f4x40
     have f5x41:A5.eval (.tmp 41) = .pointer (some ⟨b,0,none⟩):=by rw[←hA5];exact Act.eval_same _ _ _ (by rw[z4];decide)
     have z5:A5.tmps.size=67:=by rw[←hA5];exact (Act.put_size _ _ _).trans z4
     refine wpAnyH_take (i:=5) (v:=.pointer (some ⟨b,0,none⟩)) rfl (by kernel_rfl) (by kernel_rfl) (by kernel_rfl) (fun _ _ _ h=>h) (Yields.yieldsIf (Or.inl ⟨by rfl,fun w=>?_⟩)) hS ?_
     ·exact run_nilCheck (.tmp 41) _ rfl f5x41
     change wpAnyH _ _ _ _ _ _ _ (Act.put _ (some 42) _) _
     generalize hA6:Act.put A5 (some 42) _=A6
     have f6x7:A6.eval (.tmp 7) = .pointer (some ⟨w.heap.size+1,0,none⟩):=by rw[←hA6];exact (Act.eval_other _ _ _ _ (by decide)).trans f5x7
     have f6x40:A6.eval (.tmp 40) = .agg (u32V S).toArray:=by rw[←hA6];exact (Act.eval_other _ _ _ _ (by decide)).trans f5x40
     have f6x42:A6.eval (.tmp 42) = .pointer (some ⟨b,0,none⟩):=by rw[←hA6];exact Act.eval_same _ _ _ (by rw[z5];decide)
     have z6:A6.tmps.size=67:=by rw[←hA6];exact (Act.put_size _ _ _).trans z5
     refine wpAnyH_take (i:=6) (v:=.pointer (some ⟨b,16,none⟩)) rfl (by kernel_rfl) (by kernel_rfl) (by kernel_rfl) (fun _ _ _ h=>h) (Yields.yieldsIf (Or.inl ⟨by rfl,fun w=>?_⟩)) hS ?_
     ·unfold execOp;rw[show (Oper.op _)=Op.fieldAddr 158 (.tmp 42) 1 from rfl];simp only[f6x42];go_simp
     change wpAnyH _ _ _ _ _ _ _ (Act.put _ (some 43) _) _
     generalize hA7:Act.put A6 (some 43) _=A7
     have f7x7:A7.eval (.tmp 7) = .pointer (some ⟨w.heap.size+1,0,none⟩):=by rw[←hA7];exact (Act.eval_other _ _ _ _ (by decide)).trans f6x7
     have f7x40:A7.eval (.tmp 40) = .agg (u32V S).toArray:=by rw[←hA7];exact (Act.eval_other _ _ _ _ (by decide)).trans f6x40
     have f7x43:A7.eval (.tmp 43) = .pointer (some ⟨b,16,none⟩):=by rw[←hA7];exact Act.eval_same _ _ _ (by rw[z6];decide)
     have z7:A7.tmps.size=67:=by rw[←hA7];exact (Act.put_size _ _ _).trans z6
     refine wpAnyH_take (i:=7) (v:=.int .u64 (P:Nat)) rfl (by kernel_rfl) (by kernel_rfl) (by kernel_rfl) (fun _ _ _ h=>h) (Or.inl ⟨by rfl,fun w hw=>?_⟩) hS ?_
     ·have hc:=hw.2.1;unfold execOp;rw[show (Oper.op _)=Op.load 102 (.tmp 43) from rfl];simp only[f7x43];go_simp
     change wpAnyH _ _ _ _ _ _ _ (Act.put _ (some 44) _) _
     generalize hA8:Act.put A7 (some 44) _=A8
     have f8x7:A8.eval (.tmp 7) = .pointer (some ⟨w.heap.size+1,0,none⟩):=by rw[←hA8];exact (Act.eval_other _ _ _ _ (by decide)).trans f7x7
     have f8x40:A8.eval (.tmp 40) = .agg (u32V S).toArray:=by rw[←hA8];exact (Act.eval_other _ _ _ _ (by decide)).trans f7x40
     have f8x44:A8.eval (.tmp 44) = .int .u64 (P:Nat):=by rw[←hA8];exact Act.eval_same _ _ _ (by rw[z7];decide)
     have z8:A8.tmps.size=67:=by rw[←hA8];exact (Act.put_size _ _ _).trans z7
     refine wpAnyH_take (i:=8) (v:=.int .u64 (q:Nat)) rfl (by kernel_rfl) (by kernel_rfl) (by kernel_rfl) (fun _ _ _ h=>h) (Yields.yieldsIf (Or.inl ⟨by rfl,fun w=>?_⟩)) hS ?_
     ·unfold execOp;rw[show (Oper.op _)=Op.binOp .quo 102 (.tmp 44) (.const (.int .u64 64)) 102 from rfl];simp only[f8x44];go_simp
     change wpAnyH _ _ _ _ _ _ _ (Act.put _ (some 45) _) _
     generalize hA9:Act.put A8 (some 45) _=A9
     have f9x7:A9.eval (.tmp 7) = .pointer (some ⟨w.heap.size+1,0,none⟩):=by rw[←hA9];exact (Act.eval_other _ _ _ _ (by decide)).trans f8x7
     have f9x40:A9.eval (.tmp 40) = .agg (u32V S).toArray:=by rw[←hA9];exact (Act.eval_other _ _ _ _ (by decide)).trans f8x40
     have f9x45:A9.eval (.tmp 45) = .int .u64 (q:Nat):=by rw[←hA9];exact Act.eval_same _ _ _ (by rw[z8];decide)
     have z9:A9.tmps.size=67:=by rw[←hA9];exact (Act.put_size _ _ _).trans z8
     refine wpAnyH_take (i:=9) (v:=.int .u32 (q:Nat)) rfl (by kernel_rfl) (by kernel_rfl) (by kernel_rfl) (fun _ _ _ h=>h) (Yields.yieldsIf (Or.inl ⟨by rfl,fun w=>?_⟩)) hS ?_
     ·unfold execOp;rw[show (Oper.op _)=Op.convert 102 150 (.tmp 45) from rfl];simp only[f9x45];go_simp
     change wpAnyH _ _ _ _ _ _ _ (Act.put _ (some 46) _) _
     generalize hA10:Act.put A9 (some 46) _=A10
     have f10x7:A10.eval (.tmp 7) = .pointer (some ⟨w.heap.size+1,0,none⟩):=by rw[←hA10];exact (Act.eval_other _ _ _ _ (by decide)).trans f9x7
     have f10x40:A10.eval (.tmp 40) = .agg (u32V S).toArray:=by rw[←hA10];exact (Act.eval_other _ _ _ _ (by decide)).trans f9x40
     have f10x46:A10.eval (.tmp 46) = .int .u32 (q:Nat):=by rw[←hA10];exact Act.eval_same _ _ _ (by rw[z9];decide)
     have z10:A10.tmps.size=67:=by rw[←hA10];exact (Act.put_size _ _ _).trans z9
     refine wpAnyH_ready (rs:=[10]) (by kernel_rfl) (by simp) ?_
     refine AllReadyH.cons rfl (fun K hK=>?_) AllReadyH.nil
     refine step_call rfl 110 #[.tmp 40,.tmp 46] _ rfl #[.agg (u32V S).toArray,.int .u32 (q:Nat)] (by simp[f10x40,f10x46]) Tryz.call110 ?_
     refine (MBq.out _).mono ?_
     rintro e w4 ⟨rfl,hb4⟩
     refine ⟨_,rfl,hK.out _ _ (xs_below hS hb4 hbw hsz) (fun hS=>?_)⟩
     clear hK K
     change wpAnyH _ _ _ _ _ _ _ (Act.put _ (some 47) _) _
     generalize hA11:Act.put A10 (some 47) _=A11
     have f11x7:A11.eval (.tmp 7) = .pointer (some ⟨w.heap.size+1,0,none⟩):=by rw[←hA11];exact (Act.eval_other _ _ _ _ (by decide)).trans f10x7
     have f11x47:A11.eval (.tmp 47) = .agg (u8V (blk q)).toArray:=by rw[←hA11];exact Act.eval_same _ _ _ (by rw[z10];decide)
     have z11:A11.tmps.size=67:=by rw[←hA11];exact (Act.put_size _ _ _).trans z10
     have hB4:=HB.out.drew.below hb4 hbw
     have hK4:=HK.out.drew.below hb4 hsz
     have hR4:=Row.below HROW.out.drew hb4
     have hG4:=HG.out.drew.trans (hb4.grownBy _)
     have hz4:=hb4.size
     refine wpAnyH_ready (rs:=[11]) (by kernel_rfl) (by simp) ?_
     refine AllReadyH.cons rfl (fun K hK=>?_) AllReadyH.nil
     refine step_store_blk rfl 163 (.tmp 7) (.tmp 47) rfl (w.heap.size+1) 0 (u8V (blk q)).toArray f11x7 f11x47 (by rw[I2];simp) (all_oneCell_toArray O2) 163 (u8V kb) hK4 (by rw[u8V_len,HKL.out];simp[L2]) ?_
     intro w5 hK5 hG5
     have hK6:Blk w5 (w.heap.size+1) 163 (u8V (blk q)):=by
      have h:=laidOver_all (u8V kb) (u8V (blk q)) (by rw[L2,u8V_len,HKL.out])
      rw[show ((u8V (blk q)).toArray.toList)=u8V (blk q) from rfl,h] at hK5
      exact hK5
     have hB5:=hB4.grown hG5 (fun e=>nn (Option.some.inj e))
     have hR5:=hR4.kept hG5 (Or.inr HOWN.out)
     have hG6:=World.grownBy.own hG4 hG5 (fun x hx=>by rw[←Option.some.inj hx];exact Nat.le_succ _)
     have hs5:w.heap.size+1<w5.heap.size:=Nat.lt_of_lt_of_le (Nat.lt_of_lt_of_le hsz hz4) hG5.size
     refine hK.out _ _ (xs_blk hB5 hK6 LQ.out HSL.out) (fun hS=>?_)
     clear hK K
     refine wpAnyH_done (by kernel_rfl) ?_ _
     subst hA11 hA10 hA9 hA8 hA7 hA6 hA5 hA4 hA3 hA2 hA1
     rw[HA0.out]
     clear HA0 hS z0 hb4 hB4 hK4 hR4 hG4 hz4 hK5 hG5 MBq U1 U2 I1 I2 L1 L2 O1 O2
     go_wp2
     refine wp_letterW (fun w'=>Blk w' b 158 (u32V S++[.int .u64 ((P:Nat):Int)])∧Blk w' (w.heap.size+1) 163 (u8V (blk q))∧Row w' w.heap.size 5 1 u6 i (u8L (xl i))∧w.grownBy w' (some b)∧w.heap.size+1<w'.heap.size) ⟨hB5,hK6,hR5,hG6,hs5⟩ ?_
     rintro w4 ⟨hB4,hK4,hrow4,hG4,hs4⟩
     clear t1 t2 t3 t4 t5 t10 t11 t12
     have i1:=hlt
     have e1:=byte_at text i hlt
     have d0:=hK4.cell (u8V_at2 (blk q) a0 (by rw[LQ.out];exact ha64))
     have hx2:xl (i+1)=xl i++[text[i] ^^^ (blk q).getD a0 0]:=by rw[XS.out,HYK.out _ rfl,e1]
     generalize (blk q).getD a0 0=kc at *
     have tt:=u8x text[i] kc
     have HX2:=hide hx2
     clear hx2 e1
     generalize text[i] ^^^ kc=y at *
     have HROW4:=hide hrow4
     have key:=fun (w5:World) (o:Obj) (hg:(w4.drew.alloc o).grownBy w5 (u6).ownBlock)=>And.intro ((hB4.drew.alloc o).grown hg (fun e=>absurd (HROW4.out.lt b e.symm).1 (Nat.not_le_of_lt hbl))) ((hK4.drew.alloc o).grown hg (fun e=>HOWN.out e.symm))
     have HKEY:=hide key
     have HG4:=hide hG4
     clear key hB4 hK4 hrow4 hG4 c16
     have hsw:w.heap.size≤w4.heap.size:=by omega
     go_region_law (refine step_append_u8 rfl (.tmp 48) (.tmp 56) rfl w.heap.size _ i _ rfl (HROW4.out.drew.alloc _) ⟨w4.heap.size,0,none⟩ 1 1 [y] rfl rfl (one_news rfl (World.cell?_alloc_at _ _ _ _ rfl)) ?_ ?_ ?_;exact hi40;(simp;omega);intro v1 w5 hr1 hg1 hat1;have hkk:=HKEY.out w5 _ hg1;have c16:=hkk.1.cell (scells_next _ _ HSL.out);have f16:=hkk.1.frozen 16;have t7:=NUM.out.1;have t8:=NUM.out.2.1;have t9:=NUM.out.2.2)
     all_goals
      go_wp2
      clear t7 t8 t9
      go_roundw
      case rel=>
       refine ⟨i+1,blk q,by omega,by first | rfl | go_num,NEXT.out _ rfl,?_,?_,?_,?_,?_,?_⟩
       ·rw[HX2.out];exact hr1.kept ((World.grownBy.refl _ (some b)).setCell 16 _) (Or.inr (fun e=>absurd (hr1.lt b e).1 (by omega)))
       ·rcases hat1 with h | ⟨g9,h,h2⟩
        ·rw[h];exact HOWN.out
        ·rw[h];intro e;have:=Option.some.inj e;simp at h2;omega
       ·have h:=hkk.1.setCell_same 16 (.int .u64 (P1:Int))
        rw[scells_put _ _ _ HSL.out] at h
        rw[←HPP.out]
        exact h
       ·exact hkk.2.setCell_other _ _ (by simp;omega)
       ·exact (World.grownBy.own ((HG4.out.drew).alloc _) hg1 (fun x hx=>(HROW4.out.lt x hx).1)).setCell 16 _
       ·have:=hg1.size;simp at this;simp[World.setCell];omega
      case measure=>simp[intOf];omega
    ·by_cases ha0:a0=0
     ·have z1:=int_ne0 hi0
      have z2:=int_eq0 ha0
      clear hi0 ha0
      clear SAME
      have U1:Tryz.prog.underlying 155=some (.array 16 150):=Tryz.underlying155
      have U2:Tryz.prog.underlying 163=some (.array 64 5):=Tryz.underlying163
      have I1:(Tryz.prog.info? 155).map (·.size)=some (u32V S).length:=by rw[u32V_len,HSL.out];exact info16
      have I2:(Tryz.prog.info? 163).map (·.size)=some (u8V (blk q)).length:=by rw[u8V_len,LQ.out];exact info64b
      have L1:(u32V S).length=16:=by rw[u32V_len,HSL.out]
      have L2:(u8V (blk q)).length=64:=by rw[u8V_len,LQ.out]
      have O1:=u32V_one S
      have O2:=u8V_one (blk q)
      go_wp2
      refine wp_letterA (fun A0 hA0=>?_)
      have f0x0:A0.eval (.tmp 0) = .pointer (some ⟨b,0,none⟩):=by rw[hA0];rfl
      have f0x7:A0.eval (.tmp 7) = .pointer (some ⟨w.heap.size+1,0,none⟩):=by rw[hA0];rfl
      have z0:A0.tmps.size=67:=by rw[hA0];rfl
      have HA0:=hide hA0
      clear hA0
      refine wp_region_held_drew (S:=fun w'=>w'.rangeAt b 0 (u32V S)∧w'.cell? ⟨b,16,none⟩=some (.int .u64 (P:Nat))∧w'.there (w.heap.size+1) 0 64) (by kernel_rfl) (xs_start HB.out HK.out HKL.out HSL.out) (fun hS=>?_)
      refine wpAnyH_take (i:=0) (v:=.pointer (some ⟨b,0,none⟩)) rfl (by kernel_rfl) (by kernel_rfl) (by kernel_rfl) (fun _ _ _ h=>h) (Yields.yieldsIf (Or.inl ⟨by rfl,fun w=>?_⟩)) hS ?_
      ·rw[run_move (.tmp 0) rfl,f0x0]
      change wpAnyH _ _ _ _ _ _ _ (Act.put _ (some 37) _) _
      generalize hA1:Act.put A0 (some 37) _=A1
      have f1x0:A1.eval (.tmp 0) = .pointer (some ⟨b,0,none⟩):=by rw[←hA1];exact (Act.eval_other _ _ _ _ (by decide)).trans f0x0
      have f1x7:A1.eval (.tmp 7) = .pointer (some ⟨w.heap.size+1,0,none⟩):=by rw[←hA1];exact (Act.eval_other _ _ _ _ (by decide)).trans f0x7
      have f1x37:A1.eval (.tmp 37) = .pointer (some ⟨b,0,none⟩):=by rw[←hA1];exact Act.eval_same _ _ _ (by rw[z0];decide)
      have z1:A1.tmps.size=67:=by rw[←hA1];exact (Act.put_size _ _ _).trans z0
      refine wpAnyH_take (i:=1) (v:=.pointer (some ⟨b,0,none⟩)) rfl (by kernel_rfl) (by kernel_rfl) (by kernel_rfl) (fun _ _ _ h=>h) (Yields.yieldsIf (Or.inl ⟨by rfl,fun w=>?_⟩)) hS ?_
      ·exact run_nilCheck (.tmp 37) _ rfl f1x37
      change wpAnyH _ _ _ _ _ _ _ (Act.put _ (some 38) _) _
      generalize hA2:Act.put A1 (some 38) _=A2
      have f2x0:A2.eval (.tmp 0) = .pointer (some ⟨b,0,none⟩):=by rw[←hA2];exact (Act.eval_other _ _ _ _ (by decide)).trans f1x0
      have f2x7:A2.eval (.tmp 7) = .pointer (some ⟨w.heap.size+1,0,none⟩):=by rw[←hA2];exact (Act.eval_other _ _ _ _ (by decide)).trans f1x7
      have f2x38:A2.eval (.tmp 38) = .pointer (some ⟨b,0,none⟩):=by rw[←hA2];exact Act.eval_same _ _ _ (by rw[z1];decide)
      have z2:A2.tmps.size=67:=by rw[←hA2];exact (Act.put_size _ _ _).trans z1
      refine wpAnyH_take (i:=2) (v:=.pointer (some ⟨b,0,none⟩)) rfl (by kernel_rfl) (by kernel_rfl) (by kernel_rfl) (fun _ _ _ h=>h) (Yields.yieldsIf (Or.inl ⟨by rfl,fun w=>?_⟩)) hS ?_
      ·unfold execOp;rw[show (Oper.op _)=Op.fieldAddr 158 (.tmp 38) 0 from rfl];simp only[f2x38];go_simp
      change wpAnyH _ _ _ _ _ _ _ (Act.put _ (some 39) _) _
      generalize hA3:Act.put A2 (some 39) _=A3
      have f3x0:A3.eval (.tmp 0) = .pointer (some ⟨b,0,none⟩):=by rw[←hA3];exact (Act.eval_other _ _ _ _ (by decide)).trans f2x0
      have f3x7:A3.eval (.tmp 7) = .pointer (some ⟨w.heap.size+1,0,none⟩):=by rw[←hA3];exact (Act.eval_other _ _ _ _ (by decide)).trans f2x7
      have f3x39:A3.eval (.tmp 39) = .pointer (some ⟨b,0,none⟩):=by rw[←hA3];exact Act.eval_same _ _ _ (by rw[z2];decide)
      have z3:A3.tmps.size=67:=by rw[←hA3];exact (Act.put_size _ _ _).trans z2
      refine wpAnyH_take (i:=3) (v:=.agg (u32V S).toArray) rfl (by kernel_rfl) (by kernel_rfl) (by kernel_rfl) (fun _ _ _ h=>h) (yieldsIf_load_mid (by rfl) 155 (.tmp 39) rfl (b) 0 f3x39 (u32V S) (.array 16 150) (fun w h=>h.1) U1 rfl I1) hS ?_
      change wpAnyH _ _ _ _ _ _ _ (Act.put _ (some 40) _) _
      generalize hA4:Act.put A3 (some 40) _=A4
      have f4x0:A4.eval (.tmp 0) = .pointer (some ⟨b,0,none⟩):=by rw[←hA4];exact (Act.eval_other _ _ _ _ (by decide)).trans f3x0
      have f4x7:A4.eval (.tmp 7) = .pointer (some ⟨w.heap.size+1,0,none⟩):=by rw[←hA4];exact (Act.eval_other _ _ _ _ (by decide)).trans f3x7
      have f4x40:A4.eval (.tmp 40) = .agg (u32V S).toArray:=by rw[←hA4];exact Act.eval_same _ _ _ (by rw[z3];decide)
      have z4:A4.tmps.size=67:=by rw[←hA4];exact (Act.put_size _ _ _).trans z3
      refine wpAnyH_take (i:=4) (v:=.pointer (some ⟨b,0,none⟩)) rfl (by kernel_rfl) (by kernel_rfl) (by kernel_rfl) (fun _ _ _ h=>h) (Yields.yieldsIf (Or.inl ⟨by rfl,fun w=>?_⟩)) hS ?_
      ·rw[run_move (.tmp 0) rfl,f4x0]
      change wpAnyH _ _ _ _ _ _ _ (Act.put _ (some 41) _) _
      generalize hA5:Act.put A4 (some 41) _=A5
      have f5x7:A5.eval (.tmp 7) = .pointer (some ⟨w.heap.size+1,0,none⟩):=by rw[←hA5];exact (Act.eval_other _ _ _ _ (by decide)).trans f4x7
      have f5x40:A5.eval (.tmp 40) = .agg (u32V S).toArray:=by rw[←hA5];exact (Act.eval_other _ _ _ _ (by decide)).trans f4x40
      have f5x41:A5.eval (.tmp 41) = .pointer (some ⟨b,0,none⟩):=by rw[←hA5];exact Act.eval_same _ _ _ (by rw[z4];decide)
      have z5:A5.tmps.size=67:=by rw[←hA5];exact (Act.put_size _ _ _).trans z4
      refine wpAnyH_take (i:=5) (v:=.pointer (some ⟨b,0,none⟩)) rfl (by kernel_rfl) (by kernel_rfl) (by kernel_rfl) (fun _ _ _ h=>h) (Yields.yieldsIf (Or.inl ⟨by rfl,fun w=>?_⟩)) hS ?_
      ·exact run_nilCheck (.tmp 41) _ rfl f5x41
      change wpAnyH _ _ _ _ _ _ _ (Act.put _ (some 42) _) _
      generalize hA6:Act.put A5 (some 42) _=A6
      have f6x7:A6.eval (.tmp 7) = .pointer (some ⟨w.heap.size+1,0,none⟩):=by rw[←hA6];exact (Act.eval_other _ _ _ _ (by decide)).trans f5x7
      have f6x40:A6.eval (.tmp 40) = .agg (u32V S).toArray:=by rw[←hA6];exact (Act.eval_other _ _ _ _ (by decide)).trans f5x40
      have f6x42:A6.eval (.tmp 42) = .pointer (some ⟨b,0,none⟩):=by rw[←hA6];exact Act.eval_same _ _ _ (by rw[z5];decide)
      have z6:A6.tmps.size=67:=by rw[←hA6];exact (Act.put_size _ _ _).trans z5
      refine wpAnyH_take (i:=6) (v:=.pointer (some ⟨b,16,none⟩)) rfl (by kernel_rfl) (by kernel_rfl) (by kernel_rfl) (fun _ _ _ h=>h) (Yields.yieldsIf (Or.inl ⟨by rfl,fun w=>?_⟩)) hS ?_
      ·unfold execOp;rw[show (Oper.op _)=Op.fieldAddr 158 (.tmp 42) 1 from rfl];simp only[f6x42];go_simp
      change wpAnyH _ _ _ _ _ _ _ (Act.put _ (some 43) _) _
      generalize hA7:Act.put A6 (some 43) _=A7
      have f7x7:A7.eval (.tmp 7) = .pointer (some ⟨w.heap.size+1,0,none⟩):=by rw[←hA7];exact (Act.eval_other _ _ _ _ (by decide)).trans f6x7
      have f7x40:A7.eval (.tmp 40) = .agg (u32V S).toArray:=by rw[←hA7];exact (Act.eval_other _ _ _ _ (by decide)).trans f6x40
      have f7x43:A7.eval (.tmp 43) = .pointer (some ⟨b,16,none⟩):=by rw[←hA7];exact Act.eval_same _ _ _ (by rw[z6];decide)
      have z7:A7.tmps.size=67:=by rw[←hA7];exact (Act.put_size _ _ _).trans z6
      refine wpAnyH_take (i:=7) (v:=.int .u64 (P:Nat)) rfl (by kernel_rfl) (by kernel_rfl) (by kernel_rfl) (fun _ _ _ h=>h) (Or.inl ⟨by rfl,fun w hw=>?_⟩) hS ?_
      ·have hc:=hw.2.1;unfold execOp;rw[show (Oper.op _)=Op.load 102 (.tmp 43) from rfl];simp only[f7x43];go_simp
      change wpAnyH _ _ _ _ _ _ _ (Act.put _ (some 44) _) _
      generalize hA8:Act.put A7 (some 44) _=A8
      have f8x7:A8.eval (.tmp 7) = .pointer (some ⟨w.heap.size+1,0,none⟩):=by rw[←hA8];exact (Act.eval_other _ _ _ _ (by decide)).trans f7x7
      have f8x40:A8.eval (.tmp 40) = .agg (u32V S).toArray:=by rw[←hA8];exact (Act.eval_other _ _ _ _ (by decide)).trans f7x40
      have f8x44:A8.eval (.tmp 44) = .int .u64 (P:Nat):=by rw[←hA8];exact Act.eval_same _ _ _ (by rw[z7];decide)
      have z8:A8.tmps.size=67:=by rw[←hA8];exact (Act.put_size _ _ _).trans z7
      refine wpAnyH_take (i:=8) (v:=.int .u64 (q:Nat)) rfl (by kernel_rfl) (by kernel_rfl) (by kernel_rfl) (fun _ _ _ h=>h) (Yields.yieldsIf (Or.inl ⟨by rfl,fun w=>?_⟩)) hS ?_
      ·unfold execOp;rw[show (Oper.op _)=Op.binOp .quo 102 (.tmp 44) (.const (.int .u64 64)) 102 from rfl];simp only[f8x44];go_simp
      change wpAnyH _ _ _ _ _ _ _ (Act.put _ (some 45) _) _
      generalize hA9:Act.put A8 (some 45) _=A9
      have f9x7:A9.eval (.tmp 7) = .pointer (some ⟨w.heap.size+1,0,none⟩):=by rw[←hA9];exact (Act.eval_other _ _ _ _ (by decide)).trans f8x7
      have f9x40:A9.eval (.tmp 40) = .agg (u32V S).toArray:=by rw[←hA9];exact (Act.eval_other _ _ _ _ (by decide)).trans f8x40
      have f9x45:A9.eval (.tmp 45) = .int .u64 (q:Nat):=by rw[←hA9];exact Act.eval_same _ _ _ (by rw[z8];decide)
      have z9:A9.tmps.size=67:=by rw[←hA9];exact (Act.put_size _ _ _).trans z8
      refine wpAnyH_take (i:=9) (v:=.int .u32 (q:Nat)) rfl (by kernel_rfl) (by kernel_rfl) (by kernel_rfl) (fun _ _ _ h=>h) (Yields.yieldsIf (Or.inl ⟨by rfl,fun w=>?_⟩)) hS ?_
      ·unfold execOp;rw[show (Oper.op _)=Op.convert 102 150 (.tmp 45) from rfl];simp only[f9x45];go_simp
      change wpAnyH _ _ _ _ _ _ _ (Act.put _ (some 46) _) _
      generalize hA10:Act.put A9 (some 46) _=A10
      have f10x7:A10.eval (.tmp 7) = .pointer (some ⟨w.heap.size+1,0,none⟩):=by rw[←hA10];exact (Act.eval_other _ _ _ _ (by decide)).trans f9x7
      have f10x40:A10.eval (.tmp 40) = .agg (u32V S).toArray:=by rw[←hA10];exact (Act.eval_other _ _ _ _ (by decide)).trans f9x40
      have f10x46:A10.eval (.tmp 46) = .int .u32 (q:Nat):=by rw[←hA10];exact Act.eval_same _ _ _ (by rw[z9];decide)
      have z10:A10.tmps.size=67:=by rw[←hA10];exact (Act.put_size _ _ _).trans z9
      refine wpAnyH_ready (rs:=[10]) (by kernel_rfl) (by simp) ?_
      refine AllReadyH.cons rfl (fun K hK=>?_) AllReadyH.nil
      refine step_call rfl 110 #[.tmp 40,.tmp 46] _ rfl #[.agg (u32V S).toArray,.int .u32 (q:Nat)] (by simp[f10x40,f10x46]) Tryz.call110 ?_
      refine (MBq.out _).mono ?_
      rintro e w4 ⟨rfl,hb4⟩
      refine ⟨_,rfl,hK.out _ _ (xs_below hS hb4 hbw hsz) (fun hS=>?_)⟩
      clear hK K
      change wpAnyH _ _ _ _ _ _ _ (Act.put _ (some 47) _) _
      generalize hA11:Act.put A10 (some 47) _=A11
      have f11x7:A11.eval (.tmp 7) = .pointer (some ⟨w.heap.size+1,0,none⟩):=by rw[←hA11];exact (Act.eval_other _ _ _ _ (by decide)).trans f10x7
      have f11x47:A11.eval (.tmp 47) = .agg (u8V (blk q)).toArray:=by rw[←hA11];exact Act.eval_same _ _ _ (by rw[z10];decide)
      have z11:A11.tmps.size=67:=by rw[←hA11];exact (Act.put_size _ _ _).trans z10
      have hB4:=HB.out.drew.below hb4 hbw
      have hK4:=HK.out.drew.below hb4 hsz
      have hR4:=Row.below HROW.out.drew hb4
      have hG4:=HG.out.drew.trans (hb4.grownBy _)
      have hz4:=hb4.size
      refine wpAnyH_ready (rs:=[11]) (by kernel_rfl) (by simp) ?_
      refine AllReadyH.cons rfl (fun K hK=>?_) AllReadyH.nil
      refine step_store_blk rfl 163 (.tmp 7) (.tmp 47) rfl (w.heap.size+1) 0 (u8V (blk q)).toArray f11x7 f11x47 (by rw[I2];simp) (all_oneCell_toArray O2) 163 (u8V kb) hK4 (by rw[u8V_len,HKL.out];simp[L2]) ?_
      intro w5 hK5 hG5
      have hK6:Blk w5 (w.heap.size+1) 163 (u8V (blk q)):=by
       have h:=laidOver_all (u8V kb) (u8V (blk q)) (by rw[L2,u8V_len,HKL.out])
       rw[show ((u8V (blk q)).toArray.toList)=u8V (blk q) from rfl,h] at hK5
       exact hK5
      have hB5:=hB4.grown hG5 (fun e=>nn (Option.some.inj e))
      have hR5:=hR4.kept hG5 (Or.inr HOWN.out)
      have hG6:=World.grownBy.own hG4 hG5 (fun x hx=>by rw[←Option.some.inj hx];exact Nat.le_succ _)
      have hs5:w.heap.size+1<w5.heap.size:=Nat.lt_of_lt_of_le (Nat.lt_of_lt_of_le hsz hz4) hG5.size
      refine hK.out _ _ (xs_blk hB5 hK6 LQ.out HSL.out) (fun hS=>?_)
      clear hK K
      refine wpAnyH_done (by kernel_rfl) ?_ _
      subst hA11 hA10 hA9 hA8 hA7 hA6 hA5 hA4 hA3 hA2 hA1
      rw[HA0.out]
      clear HA0 hS z0 hb4 hB4 hK4 hR4 hG4 hz4 hK5 hG5 MBq U1 U2 I1 I2 L1 L2 O1 O2
      go_wp2
      refine wp_letterW (fun w'=>Blk w' b 158 (u32V S++[.int .u64 ((P:Nat):Int)])∧Blk w' (w.heap.size+1) 163 (u8V (blk q))∧Row w' w.heap.size 5 1 u6 i (u8L (xl i))∧w.grownBy w' (some b)∧w.heap.size+1<w'.heap.size) ⟨hB5,hK6,hR5,hG6,hs5⟩ ?_
      rintro w4 ⟨hB4,hK4,hrow4,hG4,hs4⟩
      clear t1 t2 t3 t4 t5 t10 t11 t12
      have i1:=hlt
      have e1:=byte_at text i hlt
      have d0:=hK4.cell (u8V_at2 (blk q) a0 (by rw[LQ.out];exact ha64))
      have hx2:xl (i+1)=xl i++[text[i] ^^^ (blk q).getD a0 0]:=by rw[XS.out,HYK.out _ rfl,e1]
      generalize (blk q).getD a0 0=kc at *
      have tt:=u8x text[i] kc
      have HX2:=hide hx2
      clear hx2 e1
      generalize text[i] ^^^ kc=y at *
      have HROW4:=hide hrow4
      have key:=fun (w5:World) (o:Obj) (hg:(w4.drew.alloc o).grownBy w5 (u6).ownBlock)=>And.intro ((hB4.drew.alloc o).grown hg (fun e=>absurd (HROW4.out.lt b e.symm).1 (Nat.not_le_of_lt hbl))) ((hK4.drew.alloc o).grown hg (fun e=>HOWN.out e.symm))
      have HKEY:=hide key
      have HG4:=hide hG4
      clear key hB4 hK4 hrow4 hG4 c16
      have hsw:w.heap.size≤w4.heap.size:=by omega
      go_region_law (refine step_append_u8 rfl (.tmp 48) (.tmp 56) rfl w.heap.size _ i _ rfl (HROW4.out.drew.alloc _) ⟨w4.heap.size,0,none⟩ 1 1 [y] rfl rfl (one_news rfl (World.cell?_alloc_at _ _ _ _ rfl)) ?_ ?_ ?_;exact hi40;(simp;omega);intro v1 w5 hr1 hg1 hat1;have hkk:=HKEY.out w5 _ hg1;have c16:=hkk.1.cell (scells_next _ _ HSL.out);have f16:=hkk.1.frozen 16;have t7:=NUM.out.1;have t8:=NUM.out.2.1;have t9:=NUM.out.2.2)
      all_goals
       go_wp2
       clear t7 t8 t9
       go_roundw
       case rel=>
        refine ⟨i+1,blk q,by omega,by first | rfl | go_num,NEXT.out _ rfl,?_,?_,?_,?_,?_,?_⟩
        ·rw[HX2.out];exact hr1.kept ((World.grownBy.refl _ (some b)).setCell 16 _) (Or.inr (fun e=>absurd (hr1.lt b e).1 (by omega)))
        ·rcases hat1 with h | ⟨g9,h,h2⟩
         ·rw[h];exact HOWN.out
         ·rw[h];intro e;have:=Option.some.inj e;simp at h2;omega
        ·have h:=hkk.1.setCell_same 16 (.int .u64 (P1:Int))
         rw[scells_put _ _ _ HSL.out] at h
         rw[←HPP.out]
         exact h
        ·exact hkk.2.setCell_other _ _ (by simp;omega)
        ·exact (World.grownBy.own ((HG4.out.drew).alloc _) hg1 (fun x hx=>(HROW4.out.lt x hx).1)).setCell 16 _
        ·have:=hg1.size;simp at this;simp[World.setCell];omega
       case measure=>simp[intOf];omega
     ·have z1:=int_ne0 hi0
      have z2:=int_ne0 ha0
      have hkq:=SAME.out hi0 ha0
      clear MBq SAME hi0 ha0
      go_wp2
      refine wp_letterW (fun w'=>Blk w' b 158 (u32V S++[.int .u64 ((P:Nat):Int)])∧Blk w' (w.heap.size+1) 163 (u8V (blk q))∧Row w' w.heap.size 5 1 u6 i (u8L (xl i))∧w.grownBy w' (some b)∧w.heap.size+1<w'.heap.size) ⟨HB.out,by rw[←hkq];exact HK.out,HROW.out,HG.out,hsz⟩ ?_
      rintro w4 ⟨hB4,hK4,hrow4,hG4,hs4⟩
      clear t1 t2 t3 t4 t5 t10 t11 t12
      have i1:=hlt
      have e1:=byte_at text i hlt
      have d0:=hK4.cell (u8V_at2 (blk q) a0 (by rw[LQ.out];exact ha64))
      have hx2:xl (i+1)=xl i++[text[i] ^^^ (blk q).getD a0 0]:=by rw[XS.out,HYK.out _ rfl,e1]
      generalize (blk q).getD a0 0=kc at *
      have tt:=u8x text[i] kc
      have HX2:=hide hx2
      clear hx2 e1
      generalize text[i] ^^^ kc=y at *
      have HROW4:=hide hrow4
      have key:=fun (w5:World) (o:Obj) (hg:(w4.drew.alloc o).grownBy w5 (u6).ownBlock)=>And.intro ((hB4.drew.alloc o).grown hg (fun e=>absurd (HROW4.out.lt b e.symm).1 (Nat.not_le_of_lt hbl))) ((hK4.drew.alloc o).grown hg (fun e=>HOWN.out e.symm))
      have HKEY:=hide key
      have HG4:=hide hG4
      clear key hB4 hK4 hrow4 hG4 c16
      have hsw:w.heap.size≤w4.heap.size:=by omega
      go_region_law (refine step_append_u8 rfl (.tmp 48) (.tmp 56) rfl w.heap.size _ i _ rfl (HROW4.out.drew.alloc _) ⟨w4.heap.size,0,none⟩ 1 1 [y] rfl rfl (one_news rfl (World.cell?_alloc_at _ _ _ _ rfl)) ?_ ?_ ?_;exact hi40;(simp;omega);intro v1 w5 hr1 hg1 hat1;have hkk:=HKEY.out w5 _ hg1;have c16:=hkk.1.cell (scells_next _ _ HSL.out);have f16:=hkk.1.frozen 16;have t7:=NUM.out.1;have t8:=NUM.out.2.1;have t9:=NUM.out.2.2)
      all_goals
       go_wp2
       clear t7 t8 t9
       go_roundw
       case rel=>
        refine ⟨i+1,blk q,by omega,by first | rfl | go_num,NEXT.out _ rfl,?_,?_,?_,?_,?_,?_⟩
        ·rw[HX2.out];exact hr1.kept ((World.grownBy.refl _ (some b)).setCell 16 _) (Or.inr (fun e=>absurd (hr1.lt b e).1 (by omega)))
        ·rcases hat1 with h | ⟨g9,h,h2⟩
         ·rw[h];exact HOWN.out
         ·rw[h];intro e;have:=Option.some.inj e;simp at h2;omega
        ·have h:=hkk.1.setCell_same 16 (.int .u64 (P1:Int))
         rw[scells_put _ _ _ HSL.out] at h
         rw[←HPP.out]
         exact h
        ·exact hkk.2.setCell_other _ _ (by simp;omega)
        ·exact (World.grownBy.own ((HG4.out.drew).alloc _) hg1 (fun x hx=>(HROW4.out.lt x hx).1)).setCell 16 _
        ·have:=hg1.size;simp at this;simp[World.setCell];omega
       case measure=>simp[intOf];omega
   ·obtain rfl:i=text.size:=by omega
    obtain ⟨ao,cap,rfl,hc1,hc2,hcv⟩:=Row.strAny hrow
    have jt:¬ (text.size:Int)<(text.size:Int):=by omega
    have HF:=hide (FIN.out wr hB hG)
    clear hrow hc1 hc2 hB hG hK hown hkb
    go_wp2
    refine bodyPost_ret (results_tmp2 rfl _ _ _) rfl ?_
    exact ⟨rfl,HF.out⟩
end Go.Proofs.YtoifalcpfnacnaaGreatDoor
namespace Go.Proofs.YtoifalcpfnacnaaGreatDoor
namespace Cha
theorem xor_at (key nonce:List UInt8) (n f:Nat) (text:List UInt8) (k i:Nat) (h:i<k):(xorL key nonce n f text k).getD i 0=text.getD i 0 ^^^ ks key nonce n (f+i):=by
 have hi:(List.range k)[i]? = some i:=by rw[List.getElem?_range h]
 rw[List.getD_eq_getElem?_getD]
 unfold xorL
 rw[List.getElem?_map,hi]
 rfl
theorem xor_self (a b:UInt8):a ^^^ b ^^^ b=a:=by rw[UInt8.xor_assoc,UInt8.xor_self,UInt8.xor_zero]
theorem getD_left (a b:List UInt8) (i:Nat) (h:i<a.length):(a++b).getD i 0=a.getD i 0:=by
 rw[List.getD_eq_getElem?_getD,List.getD_eq_getElem?_getD,List.getElem?_append_left h]
theorem getD_right (a b:List UInt8) (i:Nat) (h:a.length≤i):(a++b).getD i 0=b.getD (i-a.length) 0:=by
 rw[List.getD_eq_getElem?_getD,List.getD_eq_getElem?_getD,List.getElem?_append_right h]
theorem of_getD (a:List UInt8) (f:Nat→UInt8) (k:Nat) (hk:a.length=k) (h:∀ i,i<k→f i=a.getD i 0):(List.range k).map f=a:=by
 apply List.ext_getElem?
 intro i
 by_cases hi:i<k
 ·rw[List.getElem?_map,List.getElem?_range hi,List.getElem?_eq_getElem (by omega)]
  show some (f i)=_
  rw[h i hi,List.getD_eq_getElem?_getD,List.getElem?_eq_getElem (by omega)]
  rfl
 ·rw[List.getElem?_eq_none (by simp;omega),List.getElem?_eq_none (by omega)]
theorem xor_twice (key nonce:List UInt8) (n f:Nat) (s t:List UInt8):
  xorL key nonce n f (xorL key nonce n f s s.length++xorL key nonce n (f+s.length) t t.length) (s.length+t.length)=s++t:=by
 have hl:(xorL key nonce n f s s.length).length=s.length:=by simp[xorL]
 refine of_getD (s++t) _ _ (by simp) ?_
 intro i hi
 by_cases h:i<s.length
 ·rw[getD_left _ _ _ (by omega),getD_left _ _ _ h,xor_at _ _ _ _ _ _ _ h,xor_self]
 ·rw[getD_right _ _ _ (by omega),getD_right _ _ _ (by omega),hl,xor_at _ _ _ _ _ _ _ (by omega),show f+s.length+(i-s.length)=f+i by omega,xor_self]
theorem xor_back (key nonce:List UInt8) (n f:Nat) (s:List UInt8):xorL key nonce n f (xorL key nonce n f s s.length) s.length=s:=by
 have h:=xor_twice key nonce n f s []
 simp only[List.length_nil,Nat.add_zero,List.append_nil] at h
 have h0:xorL key nonce n (f+s.length) [] 0=[]:=rfl
 rw[h0,List.append_nil] at h
 exact h
end Cha
namespace Box
theorem sealed_len (key nonce aad text:List UInt8):(sealed key nonce aad text).length=text.length+16:=by
 unfold sealed
 rw[List.length_append,tag_len,xor_len]
theorem bare_sealed (key nonce aad text:List UInt8):bare key nonce (sealed key nonce aad text)=text:=by
 unfold bare
 rw[sealed_len,Nat.add_sub_cancel]
 unfold sealed
 rw[List.take_left' (xor_len _ _ _ _ _ _)]
 exact Cha.xor_back key nonce 1 0 text
theorem opened_sealed (key nonce aad text:List UInt8):opened key nonce aad (sealed key nonce aad text)=(text,0):=by
 unfold opened
 rw[if_neg (by rw[sealed_len];omega),bare_sealed,if_pos rfl]
theorem opened_ok (key nonce aad box:List UInt8) (h:(opened key nonce aad box).2=0):sealed key nonce aad (opened key nonce aad box).1=box:=by
 unfold opened at h ⊢
 split at h
 ·cases h
 ·rename_i h1
  rw[if_neg h1]
  split at h
  ·rename_i h2
   rw[if_pos h2];exact h2
  ·cases h
end Box
end Go.Proofs.YtoifalcpfnacnaaGreatDoor
namespace Go.Proofs.YtoifalcpfnacnaaGreatDoor
open Go.RowKit
def SB (w:World) (b:Nat) (key nonce:List UInt8) (n used:Nat):Prop:=n*64+used≤274877906944∧Blk w b 158 (scells key nonce (n*64+used))
theorem SB.lt {w:World} {b:Nat} {key nonce:List UInt8} {n used:Nat} (h:SB w b key nonce n used):b<w.heap.size:=h.2.lt
theorem SB.below {w w':World} {b:Nat} {key nonce:List UInt8} {n used:Nat} (h:SB w b key nonce n used) {B:Nat} (hb:Below B w w') (hB:b<B):SB w' b key nonce n used:=⟨h.1,h.2.below hb hB⟩
theorem SB.drewN {w:World} {b:Nat} {key nonce:List UInt8} {n used:Nat} (h:SB w b key nonce n used) (m:Nat):SB (w.drewN m) b key nonce n used:=⟨h.1,h.2.drewN m⟩
theorem pk_drewN {B:Nat} {a w:World} (h:Below B a w) (m:Nat):Below B a (w.drewN m):=⟨h.os,h.tape,h.output,h.size,h.block⟩
theorem begin_sb (key nonce:ByteArray) (w:World) (hk:key.size=32) (hn:nonce.size=12):
  Calls Tryz.prog 68 #[.string key,.string nonce,.int .i64 1] w fun e w'=>(∃ b,e = .returned (.tuple #[.pointer (some ⟨b,0,none⟩),.int .i64 0])∧w.heap.size≤b∧SB w' b key.data.toList nonce.data.toList 1 0)∧Below w.heap.size w w':=by
 have ha:=blockAns_ok 1 hk hn (by decide)
 refine (begin_ok key nonce 1 (fun _=>(0,0)) (1,1) w (by decide) (by decide)).mono ?_
 rw[show (1:Int)=((1:Nat):Int) from rfl,ha]
 rintro e w' ⟨⟨v,rfl,hv⟩,hb⟩
 rcases hv with ⟨h,_⟩ | ⟨_,b,rfl,h1,h2,h3⟩
 ·exact absurd rfl h
 ·refine ⟨⟨b,rfl,?_,h1,h2⟩,hb⟩
  rcases Nat.lt_or_ge b w.heap.size with hl | hl
  ·rw[fresh_old _ _ _ _ hl] at h3
   exact absurd h3 (by decide)
  ·exact hl
theorem begin_sbad (key nonce:ByteArray) (w:World) (h:key.size≠32∨nonce.size≠12):
  Calls Tryz.prog 68 #[.string key,.string nonce,.int .i64 1] w fun e w'=>e = .returned (.tuple #[.pointer none,.int .i64 1])∧Below w.heap.size w w':=by
 have ha:Cha.blockAns key nonce 1=([],1):=by unfold Cha.blockAns;rw[if_pos h]
 refine (begin_ok key nonce 1 (fun _=>(0,0)) (1,1) w (by decide) (by decide)).mono ?_
 rw[ha]
 rintro e w' ⟨⟨v,rfl,hv⟩,hb⟩
 rcases hv with ⟨_,rfl⟩ | ⟨h,_⟩
 ·exact ⟨rfl,hb⟩
 ·exact absurd h (by decide)
theorem xor_sb (key nonce text:ByteArray) (b:Nat) (w:World) (hk:key.size=32) (hn:nonce.size=12) (ht:text.size≤1099511627) (h:SB w b key.data.toList nonce.data.toList 1 0):
  Calls Tryz.prog 71 #[.pointer (some ⟨b,0,none⟩),.string text] w fun e w'=>e = .returned (.tuple #[.string ⟨(Cha.xorL key.data.toList nonce.data.toList 1 0 text.data.toList text.size).toArray⟩,.int .i64 0])∧w.grownBy w' (some b):=by
 have hx:Cha.xorAns key nonce 1 0 text=(Cha.xorL key.data.toList nonce.data.toList 1 0 text.data.toList text.size,0):=by unfold Cha.xorAns;rw[if_neg (by omega)]
 refine (xor_ok key nonce 1 0 text (fun g=>if g=b then (1,1) else (0,0)) (1,1) b w hk hn (by decide) (by decide) ht ⟨h.1,h.2,if_pos rfl⟩).mono ?_
 rw[hx]
 rintro e w' ⟨rfl,_,hs⟩
 exact ⟨rfl,hs.os,hs.tape,hs.output,hs.size,fun k hk hne=>hs.block k hk (by
  show ¬ (if k=b then ((1,1):Nat × Nat) else (0,0))=(1,1)
  rw[if_neg (fun e=>hne (by rw[e]))]
  decide)⟩
set_option maxRecDepth 100000 in
set_option maxHeartbeats 800000 in
theorem pseal_ok:SealOK:=by
 intro key nonce aad text w ha ht
 unfold Box.sealAns ansV
 by_cases h:key.size≠32∨nonce.size≠12
 ·rw[if_pos h]
  have HB:=hide (fun w=>begin_sbad key nonce w h)
  clear h
  go_enter Tryz.func53,Tryz.ntmps53
  go_wp2_with fail
  refine (HB.out _).mono ?_
  rintro e w1 ⟨rfl,be1⟩
  go_wp2
  refine bodyPost_ret (results_tmp2 rfl _ _ _) rfl ?_
  exact ⟨rfl,be1⟩
 ·have hk:key.size=32:=by omega
  have hn:nonce.size=12:=by omega
  rw[if_neg h]
  have HB:=hide (fun w=>begin_sb key nonce w hk hn)
  have HX:=hide (fun b w=>xor_sb key nonce text b w hk hn ht)
  have hbs:(⟨(Cha.xorL key.data.toList nonce.data.toList 1 0 text.data.toList text.size).toArray⟩:ByteArray).size=text.size:=by rw[two_size,Box.xor_len]
  have HT:=hide (fun w=>tagOf_any key nonce aad ⟨(Cha.xorL key.data.toList nonce.data.toList 1 0 text.data.toList text.size).toArray⟩ w hk hn ha (by rw[hbs];exact ht))
  have hts:(⟨(Box.tag key.data.toList nonce.data.toList aad.data.toList (⟨(Cha.xorL key.data.toList nonce.data.toList 1 0 text.data.toList text.size).toArray⟩:ByteArray).data.toList).toArray⟩:ByteArray).size=16:=by rw[two_size,Box.tag_len]
  have HV:=hide (show (⟨(Box.sealed key.data.toList nonce.data.toList aad.data.toList text.data.toList).toArray⟩:ByteArray)=⟨(Cha.xorL key.data.toList nonce.data.toList 1 0 text.data.toList text.size).toArray⟩++⟨(Box.tag key.data.toList nonce.data.toList aad.data.toList (⟨(Cha.xorL key.data.toList nonce.data.toList 1 0 text.data.toList text.size).toArray⟩:ByteArray).data.toList).toArray⟩ by
   apply text_ext
   rw[cat_list,two_toList,two_toList,two_toList,←text_len text]
   rfl)
  show Calls _ _ _ _ fun e w'=>e = .returned (.tuple #[.string ⟨(Box.sealed key.data.toList nonce.data.toList aad.data.toList text.data.toList).toArray⟩,.int .i64 0])∧_
  rw[HV.out]
  clear HV
  generalize Box.tag key.data.toList nonce.data.toList aad.data.toList (⟨(Cha.xorL key.data.toList nonce.data.toList 1 0 text.data.toList text.size).toArray⟩:ByteArray).data.toList=TG at *
  generalize (⟨(Cha.xorL key.data.toList nonce.data.toList 1 0 text.data.toList text.size).toArray⟩:ByteArray)=bo at *
  generalize (⟨TG.toArray⟩:ByteArray)=tg at *
  have j1:¬ 9223372036854775807<bo.size+tg.size:=by omega
  clear hk hn hbs hts ha ht h
  go_enter Tryz.func53,Tryz.ntmps53
  go_wp2_with fail
  refine (HB.out _).mono ?_
  rintro e w1 ⟨⟨b,rfl,hbb,hS⟩,be1⟩
  have HS:=hide hS
  have BE1:=hide be1
  clear HB hS be1
  go_wp2_with fail
  refine (HX.out b _ HS.out).mono ?_
  rintro e w2 ⟨rfl,hg⟩
  have BE2:=hide (BE1.out.trans (RowKit.Below.of_grown hg hbb BE1.out.size))
  clear HX hg HS BE1
  go_wp2_with fail
  refine (HT.out _).mono ?_
  rintro e w3 ⟨rfl,be3⟩
  have BE3:=hide (BE2.out.trans (be3.mono BE2.out.size))
  clear HT be3 BE2
  go_wp2
  refine bodyPost_ret (results_tmp2 rfl _ _ _) rfl ?_
  exact ⟨rfl,BE3.out⟩
theorem sealed_iff (key nonce aad box:List UInt8) (h:¬ box.length<16):Box.sealed key nonce aad (Box.bare key nonce box)=box↔Box.tag key nonce aad (box.take (box.length-16))=box.drop (box.length-16):=by
 have hl:(box.take (box.length-16)).length=box.length-16:=by rw[List.length_take];omega
 have hb:(Box.bare key nonce box).length=box.length-16:=by unfold Box.bare;rw[Box.xor_len]
 have hx:Cha.xorL key nonce 1 0 (Box.bare key nonce box) (Box.bare key nonce box).length=box.take (box.length-16):=by
  rw[hb]
  unfold Box.bare
  have h1:=Cha.xor_back key nonce 1 0 (box.take (box.length-16))
  rw[hl] at h1
  exact h1
 unfold Box.sealed
 rw[hx]
 constructor
 ·intro e
  have e2:=congrArg (List.drop (box.length-16)) e
  rw[List.drop_left' hl] at e2
  exact e2
 ·intro e
  rw[e,List.take_append_drop]
set_option maxRecDepth 100000 in
set_option maxHeartbeats 1600000 in
theorem popen_ok:OpenOK:=by
 intro key nonce aad box w ha ht
 unfold Box.openAns ansV
 by_cases h:key.size≠32∨nonce.size≠12
 ·rw[if_pos h]
  have HB:=hide (fun w=>begin_sbad key nonce w h)
  clear h
  go_enter Tryz.func34,Tryz.ntmps34
  go_wp2_with fail
  refine (HB.out _).mono ?_
  rintro e w1 ⟨rfl,be1⟩
  go_wp2
  refine bodyPost_ret (results_tmp2 rfl _ _ _) rfl ?_
  exact ⟨rfl,be1⟩
 ·have hk:key.size=32:=by omega
  have hn:nonce.size=12:=by omega
  rw[if_neg h]
  have HB:=hide (fun w=>begin_sb key nonce w hk hn)
  unfold Box.opened
  by_cases hsm:box.size<16
  ·rw[if_pos (by rw[text_len];exact hsm)]
   have j1:(box.size:Int)<16:=by omega
   clear hk hn h hsm
   go_enter Tryz.func34,Tryz.ntmps34
   go_wp2_with fail
   refine (HB.out _).mono ?_
   rintro e w1 ⟨⟨b,rfl,hbb,hS⟩,be1⟩
   go_wp2
   refine bodyPost_ret (results_tmp2 rfl _ _ _) rfl ?_
   exact ⟨rfl,be1⟩
  ·rw[if_neg (by rw[text_len];exact hsm)]
   obtain ⟨n,hnn⟩:∃ n:Nat,n=box.size-16:=⟨_,rfl⟩
   have j1:¬ (box.size:Int)<16:=by omega
   have t1:IntKind.i64.wrap ((box.size:Int)-16)=(n:Int):=(IntWalk.i64_in _ (by omega)).trans (by omega)
   have t2:(box.size:Int)-16=(n:Int):=by omega
   have t3:wrap64 (n:Int)=(n:Int):=IntWalk.wrap64_in _ (by omega)
   have hn2:n≤box.size:=by omega
   have hns:(box.extract 0 n).size=n:=by rw[ByteArray.size_extract];omega
   have HX:=hide (fun b w=>xor_sb key nonce (box.extract 0 n) b w hk hn (by rw[hns];omega))
   have hba:Box.bare key.data.toList nonce.data.toList box.data.toList=Cha.xorL key.data.toList nonce.data.toList 1 0 (box.extract 0 n).data.toList (box.extract 0 n).size:=by
    unfold Box.bare
    rw[text_len,hns,sub_list,←hnn]
    rfl
   rw[←hba] at HX
   have HT:=hide (fun w=>tagOf_any key nonce aad (box.extract 0 n) w hk hn ha (by rw[hns];omega))
   have hiff:=sealed_iff key.data.toList nonce.data.toList aad.data.toList box.data.toList (by rw[text_len];exact hsm)
   rw[text_len,←hnn] at hiff
   have e1:(box.extract 0 n).data.toList=box.data.toList.take n:=by rw[sub_list,List.drop_zero,Nat.sub_zero]
   have e2:(box.extract n box.size).data.toList=box.data.toList.drop n:=by
    rw[sub_list]
    exact List.take_of_length_le (by rw[List.length_drop,text_len];exact Nat.le_refl _)
   rw[←e1,←e2] at hiff
   have htl:=Box.tag_len key.data.toList nonce.data.toList aad.data.toList (box.extract 0 n).data.toList
   generalize Box.tag key.data.toList nonce.data.toList aad.data.toList (box.extract 0 n).data.toList=TG at *
   have hsame:(Box.sealed key.data.toList nonce.data.toList aad.data.toList (Box.bare key.data.toList nonce.data.toList box.data.toList)=box.data.toList)↔(⟨TG.toArray⟩:ByteArray)=box.extract n box.size:=by
    rw[hiff]
    exact ⟨fun h=>text_ext (by rw[two_toList];exact h),fun h=>by rw[←h,two_toList]⟩
   have hts:(⟨TG.toArray⟩:ByteArray).size≤1099511627776:=by rw[two_size,htl];decide
   have SM:=hide (fun w=>same_any (⟨TG.toArray⟩:ByteArray) (box.extract n box.size) w hts)
   generalize (⟨TG.toArray⟩:ByteArray)=tg at *
   by_cases heq:tg=box.extract n box.size
   ·rw[if_pos (hsame.2 heq)]
    rw[decide_eq_true heq] at SM
    generalize Box.bare key.data.toList nonce.data.toList box.data.toList=BO at *
    clear hk hn h hsm hnn hns hba hiff e1 e2 hsame hts heq ha ht htl
    go_enter Tryz.func34,Tryz.ntmps34
    go_wp2_with fail
    refine (HB.out _).mono ?_
    rintro e w1 ⟨⟨b,rfl,hbb,hS⟩,be1⟩
    have HS:=hide hS
    have BE1:=hide be1
    clear HB hS be1
    go_wp2_with fail
    refine (HT.out _).mono ?_
    rintro e w2 ⟨rfl,be2⟩
    have BE2:=hide (BE1.out.trans (be2.mono BE1.out.size))
    have HS2:=hide (HS.out.below be2 HS.out.lt)
    clear HT be2 BE1 HS
    go_wp2_with fail
    refine (SM.out _).mono ?_
    rintro e w3 ⟨rfl,m,hw3⟩
    have HS3:Hid (SB w3 b key.data.toList nonce.data.toList 1 0):=hide (by rw[hw3];exact HS2.out.drewN m)
    have BE3:Hid (Below w.heap.size w w3):=hide (by rw[hw3];exact pk_drewN BE2.out m)
    clear SM hw3 HS2 BE2
    go_wp2_with fail
    refine (HX.out b _ HS3.out).mono ?_
    rintro e w4 ⟨rfl,hg⟩
    have BE4:=hide (BE3.out.trans (RowKit.Below.of_grown hg hbb BE3.out.size))
    clear HX hg HS3 BE3
    go_wp2
    refine bodyPost_ret (results_tmp2 rfl _ _ _) rfl ?_
    exact ⟨rfl,BE4.out⟩
   ·rw[if_neg (fun h=>heq (hsame.1 h))]
    rw[decide_eq_false heq] at SM
    clear hk hn h hsm hnn hns hba hiff e1 e2 hsame hts heq ha ht htl HX
    go_enter Tryz.func34,Tryz.ntmps34
    go_wp2_with fail
    refine (HB.out _).mono ?_
    rintro e w1 ⟨⟨b,rfl,hbb,hS⟩,be1⟩
    have BE1:=hide be1
    clear HB hS be1
    go_wp2_with fail
    refine (HT.out _).mono ?_
    rintro e w2 ⟨rfl,be2⟩
    have BE2:=hide (BE1.out.trans (be2.mono BE1.out.size))
    clear HT be2 BE1
    go_wp2_with fail
    refine (SM.out _).mono ?_
    rintro e w3 ⟨rfl,m,hw3⟩
    have BE3:Hid (Below w.heap.size w w3):=hide (by rw[hw3];exact pk_drewN BE2.out m)
    clear SM hw3 BE2
    go_wp2
    refine bodyPost_ret (results_tmp2 rfl _ _ _) rfl ?_
    exact ⟨rfl,BE3.out⟩
namespace B64
theorem val_split (P:List Nat) (i a:Nat):∀ b,val P i (a+b)=val P i a*2 ^ b+val P (i+a) b
 | 0=>by rw[Nat.pow_zero,Nat.mul_one];rfl
 | b+1=>by
  rw[show a+(b+1)=(a+b)+1 by omega,val,val_split P i a b,val,Nat.pow_succ,Nat.add_assoc i a b,Nat.mul_add,←Nat.mul_assoc (val P i a),Nat.mul_comm (val P i a*2 ^ b) 2]
  omega
theorem val_congr (P Q:List Nat) (i j:Nat):∀ n,(∀ k,k<n→P.getD (i+k) 0=Q.getD (j+k) 0)→val P i n=val Q j n
 | 0,_=>rfl
 | n+1,h=>by rw[val,val,val_congr P Q i j n (fun k hk=>h k (by omega)),h n (by omega)]
theorem top_bits (x n k:Nat) (hk:k<n):x/2 ^ (n-1-k)=2*(x/2 ^ (n-k))+x/2 ^ (n-1-k)%2:=by
 have e:n-k=(n-1-k)+1:=by omega
 rw[e,Nat.pow_succ,←Nat.div_div_eq_div_mul]
 omega
theorem val_of_bits (P:List Nat) (i n x:Nat) (h:∀ k,k<n→P.getD (i+k) 0=x/2 ^ (n-1-k)%2) (hx:x<2 ^ n):val P i n=x:=by
 have key:∀ k,k≤n→val P i k=x/2 ^ (n-k):=by
  intro k
  induction k with
  | zero=>intro _;rw[Nat.sub_zero,Nat.div_eq_of_lt hx];rfl
  | succ k ih=>
   intro hk
   rw[val,ih (by omega),h k (by omega),show n-(k+1)=n-1-k by omega]
   exact (top_bits x n k (by omega)).symm
 rw[key n (Nat.le_refl _),Nat.sub_self,Nat.pow_zero,Nat.div_one]
theorem bit_of_val {P:List Nat} (hP:∀ b ∈ P,b<2) (i n k:Nat) (hk:k<n):P.getD (i+k) 0=val P i n/2 ^ (n-1-k)%2:=by
 obtain ⟨r,rfl⟩:∃ r,n=k+1+r:=⟨n-(k+1),by omega⟩
 have h1:=val_split P i (k+1) r
 have h2:=val_lt hP (i+(k+1)) r
 have h3:=getD_bit hP (i+k)
 rw[h1,show k+1+r-1-k=r by omega,Nat.mul_comm,Nat.mul_add_div (Nat.two_pow_pos r),Nat.div_eq_of_lt h2,Nat.add_zero,val]
 omega
theorem dn_pow (k:Nat) (h:k<8):128/2 ^ k=2 ^ (8-1-k):=
 match k,h with
 | 0,_=>by decide
 | 1,_=>by decide
 | 2,_=>by decide
 | 3,_=>by decide
 | 4,_=>by decide
 | 5,_=>by decide
 | 6,_=>by decide
 | 7,_=>by decide
 | n+8,h=>absurd h (by omega)
theorem dm_pow (k:Nat) (h:k<6):32/2 ^ k=2 ^ (6-1-k):=
 match k,h with
 | 0,_=>by decide
 | 1,_=>by decide
 | 2,_=>by decide
 | 3,_=>by decide
 | 4,_=>by decide
 | 5,_=>by decide
 | n+6,h=>absurd h (by omega)
theorem bitsN_at (x:Nat):∀ n k,k<n→n≤8→(bitsN x n).getD k 0=x/2 ^ (8-1-k)%2
 | 0,k,h,_=>absurd h (by omega)
 | n+1,k,h,h8=>by
  rw[bitsN,List.getD_eq_getElem?_getD]
  rcases Nat.lt_or_ge k n with hk | hk
  ·rw[List.getElem?_append_left (by rw[bitsN_len];exact hk),←List.getD_eq_getElem?_getD,bitsN_at x n k hk (by omega)]
  ·obtain rfl:k=n:=by omega
   rw[List.getElem?_append_right (by rw[bitsN_len];exact Nat.le_refl _),bitsN_len,Nat.sub_self,dn_pow k (by omega)]
   rfl
theorem bitsM_at (x:Nat):∀ n k,k<n→n≤6→(bitsM x n).getD k 0=x/2 ^ (6-1-k)%2
 | 0,k,h,_=>absurd h (by omega)
 | n+1,k,h,h8=>by
  rw[bitsM,List.getD_eq_getElem?_getD]
  rcases Nat.lt_or_ge k n with hk | hk
  ·rw[List.getElem?_append_left (by rw[bitsM_len];exact hk),←List.getD_eq_getElem?_getD,bitsM_at x n k hk (by omega)]
  ·obtain rfl:k=n:=by omega
   rw[List.getElem?_append_right (by rw[bitsM_len];exact Nat.le_refl _),bitsM_len,Nat.sub_self,dm_pow k (by omega)]
   rfl
theorem flat_at {α:Type} (f:α→List Nat) (m:Nat) (hf:∀ a,(f a).length=m):∀ (l:List α) (i k:Nat) (hi:i<l.length),k<m→(l.flatMap f).getD (m*i+k) 0=(f l[i]).getD k 0
 | [],i,k,hi,_=>absurd hi (by simp)
 | a::r,0,k,_,hk=>by
  rw[List.flatMap_cons,List.getD_eq_getElem?_getD,Nat.mul_zero,Nat.zero_add,List.getElem?_append_left (by rw[hf];exact hk),←List.getD_eq_getElem?_getD]
  rfl
 | a::r,i+1,k,hi,hk=>by
  have h:=flat_at f m hf r i k (by simpa using hi) hk
  rw[List.flatMap_cons,List.getD_eq_getElem?_getD,List.getElem?_append_right (by rw[hf,Nat.mul_add];omega),hf,show m*(i+1)+k-m=m*i+k by rw[Nat.mul_add];omega,←List.getD_eq_getElem?_getD,h]
  rfl
theorem bitsL_at (l:List UInt8) (i k:Nat) (hi:i<l.length) (hk:k<8):(bitsL l).getD (8*i+k) 0=l[i].toNat/2 ^ (8-1-k)%2:=by
 unfold bitsL
 rw[flat_at bits8 8 (fun a=>bitsN_len _ _) l i k hi hk,bits8,bitsN_at _ 8 k hk (Nat.le_refl _)]
theorem bitsT_at (l:List UInt8) (i k:Nat) (hi:i<l.length) (hk:k<6):(bitsT l).getD (6*i+k) 0=place l[i]/2 ^ (6-1-k)%2:=by
 unfold bitsT
 rw[flat_at (fun c=>bitsM (place c) 6) 6 (fun a=>bitsM_len _ _) l i k hi hk,bitsM_at _ 6 k hk (Nat.le_refl _)]
theorem bits6_at (l:List UInt8) (i:Nat) (hi:i<8*l.length):(bits6 l).getD i 0=(bitsL l).getD i 0:=by
 unfold bits6
 rw[List.getD_eq_getElem?_getD,List.getElem?_append_left (by rw[bitsL_len];exact hi),←List.getD_eq_getElem?_getD]
theorem bits6_end (l:List UInt8) (i:Nat) (hi:8*l.length≤i):(bits6 l).getD i 0=0:=by
 unfold bits6
 rw[List.getD_eq_getElem?_getD,List.getElem?_append_right (by rw[bitsL_len];exact hi),List.getElem?_replicate]
 split <;> rfl
theorem val6_byte (l:List UInt8) (i:Nat) (hi:i<l.length):val (bits6 l) (8*i) 8=l[i].toNat:=by
 refine val_of_bits _ _ 8 _ (fun k hk=>?_) l[i].toNat_lt
 rw[bits6_at l _ (by omega),bitsL_at l i k hi hk]
theorem valT_letter (t:List UInt8) (i:Nat) (hi:i<t.length) (hp:place t[i]<64):val (bitsT t) (6*i) 6=place t[i]:=by
 refine val_of_bits _ _ 6 _ (fun k hk=>?_) hp
 rw[bitsT_at t i k hi hk]
theorem enc_length (l:List UInt8):(enc l).length=(8*l.length+gap (8*l.length))/6:=by
 unfold enc encN
 rw[List.length_map,List.length_range,bits6_len]
theorem enc_at (l:List UInt8) (j:Nat) (hj:j<(enc l).length):(enc l)[j]=letter (val (bits6 l) (6*j) 6):=by
 show (encN (bits6 l) ((bits6 l).length/6))[j]'hj=_
 exact (List.getElem_map _).trans (congrArg _ (by rw[List.getElem_range]))
theorem bits_enc (l:List UInt8):bitsT (enc l)=bits6 l:=by
 have hl:(bitsT (enc l)).length=(bits6 l).length:=by
  have h:=gap_end (8*l.length)
  rw[bitsT_len,enc_length,bits6_len]
  omega
 refine List.ext_getElem hl fun n h1 h2=>?_
 have e1:(bitsT (enc l))[n]=(bitsT (enc l)).getD n 0:=by rw[List.getD_eq_getElem?_getD,List.getElem?_eq_getElem h1];rfl
 have e2:(bits6 l)[n]=(bits6 l).getD n 0:=by rw[List.getD_eq_getElem?_getD,List.getElem?_eq_getElem h2];rfl
 have hn:n=6*(n/6)+n%6:=by omega
 have hj:n/6<(enc l).length:=by rw[bitsT_len] at h1;omega
 have hk:n%6<6:=Nat.mod_lt _ (by decide)
 have hv:=val_lt (bits6_bit l) (6*(n/6)) 6
 rw[e1,e2,hn,bitsT_at (enc l) (n/6) (n%6) hj hk,enc_at,place_letter _ hv]
 exact (bit_of_val (bits6_bit l) (6*(n/6)) 6 (n%6) hk).symm
theorem dec_enc (l:List UInt8):dec (enc l)=l:=by
 unfold dec
 rw[bits_enc,bits6_len]
 have hg:=gap_lt (8*l.length)
 have hn:(8*l.length+gap (8*l.length))/8=l.length:=by omega
 rw[hn]
 unfold decN
 refine List.ext_getElem (by simp) fun n h1 h2=>?_
 rw[List.getElem_map,List.getElem_range,val6_byte l n h2]
 simp
theorem decAns_enc (l:List UInt8):decAns (enc l)=(l,0):=by
 unfold decAns
 rw[dec_enc,if_pos rfl]
theorem dec_length (t:List UInt8):(dec t).length=6*t.length/8:=by
 unfold dec decN
 rw[List.length_map,List.length_range,bitsT_len]
theorem bits_dec (t:List UInt8) (i:Nat) (hi:i<8*(dec t).length):(bits6 (dec t)).getD i 0=(bitsT t).getD i 0:=by
 have hn:i=8*(i/8)+i%8:=by omega
 have hj:i/8<(dec t).length:=by omega
 have hk:i%8<8:=Nat.mod_lt _ (by decide)
 rw[bits6_at _ i hi,hn,bitsL_at _ _ _ hj hk,bit_of_val (bitsT_bit t) (8*(i/8)) 8 (i%8) hk]
 have hv:=val_lt (bitsT_bit t) (8*(i/8)) 8
 have:(dec t)[i/8].toNat=val (bitsT t) (8*(i/8)) 8:=by
  have e:(dec t)[i/8]=UInt8.ofNat (val (bitsT t) (8*(i/8)) 8):=(List.getElem_map _).trans (by rw[List.getElem_range])
  rw[e]
  simp
  omega
 rw[this]
theorem val_zero (P:List Nat) (i:Nat):∀ n,val P i n=0→∀ k,k<n→P.getD (i+k) 0=0
 | 0,_,k,hk=>absurd hk (by omega)
 | n+1,h,k,hk=>by
  rw[val] at h
  rcases Nat.lt_succ_iff_lt_or_eq.1 hk with h' | h'
  ·exact val_zero P i n (by omega) k h'
  ·rw[h'];omega
theorem enc_dec (t:List UInt8) (ht:∀ c ∈ t,place c<64):enc (dec t)=t↔6*t.length%8<6∧val (bitsT t) (8*(6*t.length/8)) (6*t.length%8)=0:=by
 constructor
 ·intro h
  have hb:bits6 (dec t)=bitsT t:=by rw[←bits_enc,h]
  have hl:(bits6 (dec t)).length=6*t.length:=by rw[hb,bitsT_len]
  rw[bits6_len,dec_length] at hl
  have hg:=gap_lt (8*(6*t.length/8))
  refine ⟨by omega,?_⟩
  refine val_of_bits _ _ _ 0 (fun k hk=>?_) (Nat.two_pow_pos _)
  rw[←hb,bits6_end _ _ (by rw[dec_length];omega),Nat.zero_div]
 ·rintro ⟨h1,h2⟩
  have hz:=val_zero _ _ _ h2
  have hl:(bits6 (dec t)).length=6*t.length:=by
   rw[bits6_len,dec_length]
   unfold gap
   omega
  have hlen:(enc (dec t)).length=t.length:=by rw[enc_length,←bits6_len,hl];omega
  refine List.ext_getElem hlen fun n h3 h4=>?_
  rw[enc_at]
  have hv:val (bits6 (dec t)) (6*n) 6=val (bitsT t) (6*n) 6:=by
   refine val_congr _ _ _ _ 6 fun k hk=>?_
   rcases Nat.lt_or_ge (6*n+k) (8*(dec t).length) with h | h
   ·exact bits_dec t _ h
   ·rw[bits6_end _ _ h]
    rw[dec_length] at h
    have:=hz (6*n+k-8*(6*t.length/8)) (by omega)
    rw[show 8*(6*t.length/8)+(6*n+k-8*(6*t.length/8))=6*n+k by omega] at this
    exact this.symm
  rw[hv,valT_letter t n h4 (ht _ (List.getElem_mem _)),letter_place _ (ht _ (List.getElem_mem _))]
end B64
namespace B64
theorem push_lt (N b k:Nat) (hk:k≤32) (hb:b<2 ^ k):N*2 ^ k%4294967296=N%2 ^ (32-k)*2 ^ k∧N*2 ^ k%4294967296+b<4294967296:=by
 have hp:2 ^ (32-k)*2 ^ k=4294967296:=by rw[←Nat.pow_add,show 32-k+k=32 by omega]
 have h1:N*2 ^ k%4294967296=N%2 ^ (32-k)*2 ^ k:=by rw[←hp,Nat.mul_mod_mul_right]
 refine ⟨h1,?_⟩
 have h2:N%2 ^ (32-k)+1≤2 ^ (32-k):=Nat.mod_lt _ (Nat.two_pow_pos _)
 have h3:=Nat.mul_le_mul_right (2 ^ k) h2
 rw[hp,Nat.add_mul,Nat.one_mul] at h3
 omega
theorem push_mod (N b k c:Nat) (hc:c+k≤32) (hb:b<2 ^ k):(N*2 ^ k%4294967296+b)%2 ^ (c+k)=N%2 ^ c*2 ^ k+b:=by
 have hd:2 ^ (c+k) ∣ 4294967296:=⟨2 ^ (32-(c+k)),by rw[←Nat.pow_add,show c+k+(32-(c+k))=32 by omega]⟩
 have h2:N%2 ^ c+1≤2 ^ c:=Nat.mod_lt _ (Nat.two_pow_pos _)
 have h3:=Nat.mul_le_mul_right (2 ^ k) h2
 rw[Nat.add_mul,Nat.one_mul,←Nat.pow_add] at h3
 rw[Nat.add_mod,Nat.mod_mod_of_dvd _ hd,Nat.pow_add,Nat.mul_mod_mul_right,←Nat.pow_add,Nat.mod_eq_of_lt (a:=b) (Nat.lt_of_lt_of_le hb (Nat.pow_le_pow_right (by decide) (by omega))),Nat.mod_eq_of_lt (by omega)]
theorem take_top (N c j X:Nat) (h:N%2 ^ (c+j)=X):N/2 ^ c%2 ^ j=X/2 ^ c∧N%2 ^ c=X%2 ^ c:=by
 subst h
 refine ⟨?_,?_⟩
 ·rw[Nat.pow_add,Nat.mod_mul_right_div_self]
 ·rw[Nat.pow_add,Nat.mod_mul_right_mod]
theorem or_push (N b k:Nat) (hk:k≤32) (hb:b<2 ^ k):bits .or .u32 (((N*2 ^ k%4294967296:Nat):Int)) (b:Int)=((N*2 ^ k%4294967296+b:Nat):Int):=by
 obtain ⟨h1,h2⟩:=push_lt N b k hk hb
 rw[u32_or_nat _ _ (by omega) (by omega),h1,←Nat.shiftLeft_eq,Nat.shiftLeft_add_eq_or_of_lt hb]
theorem and63 (x:Nat) (hx:x<4294967296):bits .and .u32 (x:Int) 63=((x%64:Nat):Int):=by
 have h:=u32_and_nat x 63 hx (by decide)
 rw[Nat.and_two_pow_sub_one_eq_mod x 6] at h
 exact h
theorem andLow (x c:Nat) (hx:x<4294967296) (hc:c≤32):bits .and .u32 (x:Int) ((2 ^ c-1:Nat):Int)=((x%2 ^ c:Nat):Int):=by
 have hp:2 ^ c≤4294967296:=Nat.pow_le_pow_right (by decide) hc
 have h:=u32_and_nat x (2 ^ c-1) hx (by have:=Nat.two_pow_pos c;omega)
 rw[Nat.and_two_pow_sub_one_eq_mod x c] at h
 exact h
structure Wait (P:List Nat) (m q c N:Nat):Prop where
 lt:N<4294967296
 low:N%2 ^ c=val P (m*q) c
theorem Wait.start (P:List Nat) (m:Nat):Wait P m 0 0 0:=⟨by decide,rfl⟩
theorem Wait.push {P:List Nat} {m q c N:Nat} (h:Wait P m q c N) (k b:Nat) (hk:c+k≤32) (hb:b<2 ^ k) (hv:val P (m*q+c) k=b):Wait P m q (c+k) (N*2 ^ k%4294967296+b):=
 ⟨(push_lt N b k (by omega) hb).2,by rw[push_mod N b k c hk hb,h.low,val_split,hv]⟩
theorem Wait.take {P:List Nat} (hP:∀ b ∈ P,b<2) {m q c N:Nat} (h:Wait P m q (c+m) N):N/2 ^ c%2 ^ m=val P (m*q) m∧Wait P m (q+1) c N:=by
 obtain ⟨h1,h2⟩:=take_top N c m _ h.low
 rw[Nat.add_comm c m,val_split P (m*q) m c] at h1 h2
 have hl:=val_lt hP (m*q+m) c
 rw[Nat.mul_comm,Nat.mul_add_div (Nat.two_pow_pos c),Nat.div_eq_of_lt hl,Nat.add_zero] at h1
 rw[Nat.mul_comm,Nat.mul_add_mod,Nat.mod_eq_of_lt hl] at h2
 exact ⟨h1,h.lt,h2⟩
theorem Wait.fin {l:List UInt8} {q c N:Nat} (h:Wait (bits6 l) 6 q c N) (hq:6*q+c=8*l.length) (hc:c<6):N*2 ^ (6-c)%4294967296%64=val (bits6 l) (6*q) 6:=by
 have h1:=val_split (bits6 l) (6*q) c (6-c)
 have hz:val (bits6 l) (6*q+c) (6-c)=0:=by
  refine val_of_bits _ _ _ 0 (fun k hk=>?_) (Nat.two_pow_pos _)
  rw[bits6_end _ _ (by omega),Nat.zero_div]
 rw[show c+(6-c)=6 by omega,hz,Nat.add_zero,←h.low] at h1
 have e:(64:Nat)=2 ^ c*2 ^ (6-c):=by rw[←Nat.pow_add,show c+(6-c)=6 by omega]
 rw[h1,Nat.mod_mod_of_dvd _ (by decide),e,Nat.mul_mod_mul_right]
theorem enc_end0 {l:List UInt8} {q:Nat} (hq:6*q+0=8*l.length):encN (bits6 l) q=enc l:=by
 unfold enc
 rw[bits6_len]
 congr 1
 unfold gap
 omega
theorem enc_end1 {l:List UInt8} {q c:Nat} (hq:6*q+c=8*l.length) (hc:c<6) (h0:0<c):encN (bits6 l) (q+1)=enc l:=by
 unfold enc
 rw[bits6_len]
 congr 1
 unfold gap
 omega
theorem decAns_eq {t:List UInt8} {q c N:Nat} (h:Wait (bitsT t) 8 q c N) (hq:8*q+c=6*t.length) (hc:c<8) (ht:∀ c ∈ t,place c<64):decAns t=if c<6∧N%2 ^ c=0 then (decN (bitsT t) q,0) else ([],5):=by
 have h1:=enc_dec t ht
 have e1:6*t.length%8=c:=by omega
 have e2:6*t.length/8=q:=by omega
 rw[e1,e2,←h.low] at h1
 have e3:dec t=decN (bitsT t) q:=by unfold dec;rw[bitsT_len,e2]
 unfold decAns
 rw[e3] at h1 ⊢
 by_cases hh:enc (decN (bitsT t) q)=t
 ·rw[if_pos hh,if_pos (h1.1 hh)]
 ·rw[if_neg hh,if_neg (fun e=>hh (h1.2 e))]
end B64
set_option maxRecDepth 100000 in
set_option maxHeartbeats 1600000 in
theorem hnum_any (c:UInt8) (w:World):
  Calls Tryz.prog 98 #[.int .u8 ((c.toNat:Nat):Int)] w fun e w'=>e = .returned (.int .u32 ((B64.place c:Nat):Int))∧∃ m,w'=w.drewN m:=by
 obtain ⟨R,hR⟩:∃ R:Nat,B64.place c=R:=⟨_,rfl⟩
 rw[hR]
 have HRR:=hide hR
 clear hR
 go_enter Tryz.func98,Tryz.ntmps98
 go_wp2
 go_loopw [3] (fun i wr=>∃ j m:Nat,j≤64∧i = .int .i64 (j:Nat)∧(∀ k,k<j→B64.letter k≠c)∧wr=w.drewN m) (fun i _=>64-(intOf i).toNat)
 case atStart=>exact ⟨0,0,by omega,rfl,fun k h=>absurd h (by omega),rfl⟩
 case round=>
  obtain ⟨j,m,hj,rfl,hno,rfl⟩:=hrel
  have HNO:=hide hno
  clear hno
  by_cases hlt:j<64
  ·have jj:(j:Int)<64:=by omega
   have hla:=letter_at j hlt
   by_cases hc:B64.letter j=c
   ·have hpl:B64.place c=j:=by rw[←hc];exact B64.place_letter j hlt
    have hif:(j:Int)=((R:Nat):Int):=by rw[←HRR.out,hpl]
    have z1:(((B64.letter j).toNat:Int)==(c.toNat:Int))=true:=by rw[hc];simp
    have HIF:=hide hif
    clear hif hpl hc
    go_wp2
    go_ret
    exact ⟨ret_int HIF.out,m,rfl⟩
   ·have z1:(((B64.letter j).toNat:Int)==(c.toNat:Int))=false:=beq_eq_false_iff_ne.2 (fun e=>hc (UInt8.toNat_inj.1 (by omega)))
    have HC:=hide hc
    clear hc
    go_wp2
    go_roundw
    case rel=>
     refine ⟨j+1,m,by omega,by go_num,fun k hk=>?_,rfl⟩
     rcases Nat.lt_succ_iff_lt_or_eq.1 hk with h | h
     ·exact HNO.out k h
     ·rw[h];exact HC.out
    case measure=>simp[intOf];omega
  ·have hj64:j=64:=by omega
   subst hj64
   have hpl:¬ B64.place c<64:=fun h=>HNO.out _ h (B64.letter_place c h)
   have hif:(64:Int)=((R:Nat):Int):=by rw[←HRR.out];have:=B64.place_le c;omega
   have HIF:=hide hif
   clear hif hpl hlt hj
   go_wp2
   go_ret
   exact ⟨ret_int HIF.out,m,rfl⟩
theorem Row.empty {w:World} {g:Nat} (e:TypeId) (size:Nat) (h:w.heap[g]? = some (.cells #[] e)) (base:Nat) (hb:base≤g):Row w base e size (.slice (some ⟨g,0,none⟩) 0 0) 0 []:=
 ⟨by simp,.inr ⟨g,0,[],rfl,hb,(show Blk w g e [] from h).marked,Nat.le_refl _,by decide,by simp,by simp⟩⟩
set_option maxRecDepth 100000 in
set_option maxHeartbeats 3200000 in
theorem pEncode_any (s:ByteArray) (w:World) (hs:s.size≤1099511627):
  Calls Tryz.prog 100 #[.string s] w fun e w'=>e = .returned (.string ⟨(B64.enc s.data.toList).toArray⟩)∧Below w.heap.size w w':=by
 have hlen:s.data.toList.length=s.size:=ba_len s
 have hbit:=B64.bits6_bit s.data.toList
 have hby:=B64.val6_byte s.data.toList
 have HE0:=hide (fun q=>B64.enc_end0 (l:=s.data.toList) (q:=q))
 have HE1:=hide (fun q c=>B64.enc_end1 (l:=s.data.toList) (q:=q) (c:=c))
 have HFIN:=hide (fun q c N=>B64.Wait.fin (l:=s.data.toList) (q:=q) (c:=c) (N:=N))
 obtain ⟨P,hP⟩:∃ P,B64.bits6 s.data.toList=P:=⟨_,rfl⟩
 rw[hP] at hbit hby HE0 HE1 HFIN
 rw[hlen] at HE0 HE1 HFIN
 have HBY:=hide hby
 have HBT:=hide hbit
 have HLEN:=hide hlen
 generalize B64.enc s.data.toList=EN at *
 clear hP hbit hby hlen
 go_enter Tryz.func100,Tryz.ntmps100
 go_wp2
 go_loopw [3,4,5,6] (fun v vb vc vi wr=>∃ i q c N:Nat,i≤s.size∧vi = .int .i64 (i:Nat)∧vb = .int .u32 (N:Nat)∧vc = .int .u32 (c:Nat)∧6*q+c=8*i∧c<6∧B64.Wait P 6 q c N∧Row wr w.heap.size 5 1 v q (u8L (B64.encN P q))∧Below w.heap.size w wr) (fun _ _ _ i _=>s.size-(intOf i).toNat)
 case atStart=>exact ⟨0,0,0,0,Nat.zero_le _,rfl,rfl,rfl,rfl,by decide,B64.Wait.start P 6,Row.empty _ _ (heap_alloc_new _ _) _ (Nat.le_refl _),(Below.refl _ _).alloc (Nat.le_refl _) _⟩
 case round=>
  obtain ⟨i,q,c,N,hi,rfl,rfl,rfl,hq,hc,hW,hr,hbe⟩:=hrel
  by_cases hlt:i<s.size
  ·have jj:(i:Int)<(s.size:Int):=by omega
   have hil:i<s.data.toList.length:=by rw[HLEN.out];exact hlt
   have hel:s.data.toList[i]'hil=s[i]'hlt:=by rw[byte_at s i hlt,List.getD_eq_getElem?_getD,List.getElem?_eq_getElem hil];rfl
   have hv:=HBY.out i hil
   rw[hel] at hv
   have hx:=UInt8.toNat_lt (s[i]'hlt)
   have hW2:=hW.push 8 (s[i]'hlt).toNat (by omega) hx (by rw[hq];exact hv)
   have n1:bits .or .u32 ((N:Int)*256%4294967296) ((s[i]'hlt).toNat:Int)=((N*2 ^ 8%4294967296+(s[i]'hlt).toNat:Nat):Int):=by
    rw[←B64.or_push N (s[i]'hlt).toNat 8 (by decide) hx]
    congr 1
   generalize N*2 ^ 8%4294967296+(s[i]'hlt).toNat=N2 at *
   obtain ⟨C,hC⟩:∃ C:Nat,c+8=C:=⟨_,rfl⟩
   have n2:(c:Int)+8=(C:Int):=by omega
   rw[hC] at hW2
   have HST:=hide (show 6*q+C=8*(i+1)∧C<14∧B64.Wait P 6 q C N2 from ⟨by omega,by omega,hW2⟩)
   have HR:=hide hr
   have HBE:=hide hbe
   have HLT:=hide hlt
   have e0:(((s[i]'hlt).toNat:Nat):Int)%4294967296=(((s[i]'hlt).toNat:Nat):Int):=by omega
   have e1:(C:Int)%4294967296=(C:Int):=by omega
   clear hil hel hv hx hW hW2 hq hc hC hr hbe hi
   go_wp2
   clear n1 e0
   go_loopw [3,5] (fun v vc wr=>∃ q c:Nat,vc = .int .u32 (c:Nat)∧6*q+c=8*(i+1)∧c<14∧B64.Wait P 6 q c N2∧Row wr w.heap.size 5 1 v q (u8L (B64.encN P q))∧Below w.heap.size w wr) (fun _ vc _=>(intOf vc).toNat)
   case atStart=>exact ⟨q,C,rfl,HST.out.1,HST.out.2.1,HST.out.2.2,HR.out,HBE.out⟩
   case round=>
    clear HST HR HBE
    obtain ⟨q,c,rfl,hq,hc,hW,hr,hbe⟩:=hrel
    by_cases h6:6≤c
    ·obtain ⟨c2,rfl⟩:∃ c2,c=c2+6:=⟨c-6,by omega⟩
     obtain ⟨ht,hW2⟩:=hW.take HBT.out
     have hNl:=hW.lt
     have n3:(((c2+6:Nat):Int)-6)=(c2:Int):=by omega
     have n4:(((c2+6:Nat):Int)-6)%4294967296=(c2:Int):=by omega
     have hdl:N2/2 ^ c2<4294967296:=Nat.lt_of_le_of_lt (Nat.div_le_self _ _) hNl
     have n5:bits .and .u32 ((N2:Int)/2 ^ c2) 63=((N2/2 ^ c2%64:Nat):Int):=by
      rw[←B64.and63 _ hdl,Int.natCast_ediv,Int.natCast_pow];rfl
     have hVl:N2/2 ^ c2%64<64:=Nat.mod_lt _ (by decide)
     have ht':N2/2 ^ c2%64=B64.val P (6*q) 6:=ht
     generalize N2/2 ^ c2%64=V at *
     have hla:=letter_at V hVl
     have hnx:=B64.encN_succ P q
     rw[←ht'] at hnx
     have HNX:=hide hnx
     have HST:=hide (show 6*(q+1)+c2=8*(i+1)∧c2<14∧B64.Wait P 6 (q+1) c2 N2 from ⟨by omega,by omega,hW2⟩)
     have HR:=hide hr
     have HBE:=hide hbe
     have hsz:=hbe.size
     have hqb:q≤17000000000:=by have:=HLT.out;omega
     have jV:(V:Int)<64:=by omega
     have hmin:min c2 32=c2:=by omega
     obtain ⟨ao,cap,rfl,hd1,hd2⟩:=Row.anyN hr
     unfold maxLen at hd2
     clear hr hbe hW hW2 ht ht' hnx hdl hNl hq hc h6
     go_wp2_with (at_builtin;refine wpList_append_u8 rfl (.tmp 27) (.tmp 33) rfl w.heap.size _ q _ rfl (HR.out.alloc _) ⟨wr.heap.size,0,none⟩ 1 1 [B64.letter V] rfl rfl (one_news rfl (World.cell?_alloc_at _ _ _ _ rfl)) ?_ ?_ ?_;omega;(simp;omega);intro v1 w1 hr1 hg1 hat1)
     go_roundw
     case rel=>
      refine ⟨q+1,c2,rfl,HST.out.1,HST.out.2.1,HST.out.2.2,?_,Below.grown (HBE.out.alloc hsz _) hg1 (by simp;omega) (fun k hk=>(HR.out.lt k hk).1)⟩
      rw[HNX.out]
      exact hr1
     case measure=>simp[intOf];omega
    ·have HST:=hide (show 6*q+c=8*(i+1)∧c<6∧B64.Wait P 6 q c N2 from ⟨hq,by omega,hW⟩)
     have HR:=hide hr
     have HBE:=hide hbe
     have j6:¬ (6:Int)≤(c:Int):=by omega
     clear hr hbe hW hq hc h6
     go_wp2
     go_roundw
     case rel=>
      have:=HLT.out
      exact ⟨i+1,q,c,N2,by omega,by go_num,rfl,rfl,HST.out.1,HST.out.2.1,HST.out.2.2,HR.out,HBE.out⟩
     case measure=>have:=HLT.out;simp[intOf];omega
  ·obtain rfl:i=s.size:=by omega
   have jj:¬ ((s.size:Int)<(s.size:Int)):=by omega
   have hsz:=hbe.size
   by_cases h0:c=0
   ·subst h0
    have he:=HE0.out q hq
    rw[he] at hr
    obtain ⟨ao2,cap2,rfl,hd1,hd2,hcv⟩:=Row.strAny hr
    unfold maxLen at hd2
    have HBE:=hide hbe
    clear hr hbe hW hq hc he hlt hi
    go_wp2
    go_ret
    exact ⟨rfl,HBE.out⟩
   ·have hf:=HFIN.out q c N hW hq hc
    have he:=HE1.out q c hq hc (by omega)
    obtain ⟨d,hd⟩:∃ d,6-c=d:=⟨_,rfl⟩
    rw[hd] at hf
    have n3:((6:Int)-(c:Int))=(d:Int):=by omega
    have n4:(d:Int)%4294967296=(d:Int):=by omega
    have hmin:min d 32=d:=by omega
    have j0:(0:Int)<(c:Int):=by omega
    have n5:bits .and .u32 ((N:Int)*2 ^ d%4294967296) 63=((N*2 ^ d%4294967296%64:Nat):Int):=by
     rw[←B64.and63 _ (Nat.mod_lt _ (by decide))]
     congr 1
    rw[hf] at n5
    have hnx:=B64.encN_succ P q
    rw[he] at hnx
    have hVl:=B64.val_lt HBT.out (6*q) 6
    generalize B64.val P (6*q) 6=V at *
    have hla:=letter_at V hVl
    have HNX:=hide hnx
    have HR:=hide hr
    have HBE:=hide hbe
    have hqb:q≤17000000000:=by omega
    have jV:(V:Int)<64:=by omega
    obtain ⟨ao,cap,rfl,hd1,hd2⟩:=Row.anyN hr
    unfold maxLen at hd2
    have HSA:=hide (fun (w':World) (v':Value) (h:Row w' w.heap.size 5 1 v' (q+1) (u8L EN))=>Row.strAny h)
    clear hr hbe hW hq hc hf he hd hnx h0 hlt hi
    go_wp2_with (at_builtin;refine wpList_append_u8 rfl (.tmp 37) (.tmp 44) rfl w.heap.size _ q _ rfl (HR.out.alloc _) ⟨wr.heap.size,0,none⟩ 1 1 [B64.letter V] rfl rfl (one_news rfl (World.cell?_alloc_at _ _ _ _ rfl)) ?_ ?_ ?_;omega;(simp;omega);intro v1 w1 hr1 hg1 hat1;rw[←HNX.out] at hr1;obtain ⟨ao2,cap2,rfl,hd3,hd4,hcv⟩:=HSA.out _ _ hr1;unfold maxLen at hd4)
    go_ret
    exact ⟨rfl,Below.grown (HBE.out.alloc hsz _) hg1 (by simp;omega) (fun k hk=>(HR.out.lt k hk).1)⟩
set_option maxRecDepth 100000 in
set_option maxHeartbeats 3200000 in
theorem pDecode_any (s:ByteArray) (w:World) (hs:s.size≤1099511627):
  Calls Tryz.prog 64 #[.string s] w fun e w'=>e = .returned (.tuple #[.string ⟨(B64.decAns s.data.toList).1.toArray⟩,.int .i64 (B64.decAns s.data.toList).2])∧Below w.heap.size w w':=by
 have hlen:s.data.toList.length=s.size:=ba_len s
 have HBAD:=hide (fun c hc h=>B64.decAns_bad s.data.toList c hc h)
 have HEQ:=hide (fun q c N=>B64.decAns_eq (t:=s.data.toList) (q:=q) (c:=c) (N:=N))
 have hby:=B64.valT_letter s.data.toList
 have hbit:=B64.bitsT_bit s.data.toList
 obtain ⟨P,hP⟩:∃ P,B64.bitsT s.data.toList=P:=⟨_,rfl⟩
 rw[hP] at hbit hby HEQ
 rw[hlen] at HEQ
 have HBY:=hide hby
 have HBT:=hide hbit
 have HLEN:=hide hlen
 generalize B64.decAns s.data.toList=ans at *
 clear hP hbit hby hlen
 go_enter Tryz.func64,Tryz.ntmps64
 go_wp2
 go_loopw [4,5,6,7] (fun v vb vc vi wr=>∃ i q c N:Nat,i≤s.size∧vi = .int .i64 (i:Nat)∧vb = .int .u32 (N:Nat)∧vc = .int .u32 (c:Nat)∧8*q+c=6*i∧c<8∧B64.Wait P 8 q c N∧(∀ k (hk:k<s.data.toList.length),k<i→B64.place s.data.toList[k]<64)∧Row wr w.heap.size 5 1 v q (u8L (B64.decN P q))∧Below w.heap.size w wr) (fun _ _ _ i _=>s.size-(intOf i).toNat)
 case atStart=>exact ⟨0,0,0,0,Nat.zero_le _,rfl,rfl,rfl,rfl,by decide,B64.Wait.start P 8,fun k _ h=>absurd h (by omega),Row.empty _ _ (heap_alloc_new _ _) _ (Nat.le_refl _),(Below.refl _ _).alloc (Nat.le_refl _) _⟩
 case round=>
  obtain ⟨i,q,c,N,hi,rfl,rfl,rfl,hq,hc,hW,hgood,hr,hbe⟩:=hrel
  have hsz:=hbe.size
  by_cases hlt:i<s.size
  ·have jj:(i:Int)<(s.size:Int):=by omega
   have hil:i<s.data.toList.length:=by rw[HLEN.out];exact hlt
   have hel:s.data.toList[i]'hil=s[i]'hlt:=by rw[byte_at s i hlt,List.getD_eq_getElem?_getD,List.getElem?_eq_getElem hil];rfl
   have hv:=HBY.out i hil
   have hbd:=HBAD.out (s[i]'hlt) (by rw[←hel];exact List.getElem_mem _)
   have hgd2:B64.place (s[i]'hlt)<64→∀ k (hk:k<s.data.toList.length),k<i+1→B64.place s.data.toList[k]<64:=by
    intro h k hk hki
    rcases Nat.lt_succ_iff_lt_or_eq.1 hki with h1 | h1
    ·exact hgood k hk h1
    ·subst h1;rw[hel];exact h
   rw[hel] at hv
   have hple:=B64.place_le (s[i]'hlt)
   have HNUM:=hide (fun w=>hnum_any (s[i]'hlt) w)
   have HGD2:=hide hgd2
   generalize B64.place (s[i]'hlt)=V at *
   have HR:=hide hr
   have HBE:=hide hbe
   clear hr hbe hgood hel hil hgd2
   go_wp2_with fail
   refine (HNUM.out _).mono ?_
   rintro e w2 ⟨rfl,m,rfl⟩
   clear HNUM
   by_cases hV:V<64
   ·have hW2:=hW.push 6 V (by omega) hV (by rw[hq];exact hv hV)
    have n1:bits .or .u32 ((N:Int)*64%4294967296) (V:Int)=((N*2 ^ 6%4294967296+V:Nat):Int):=by
     rw[←B64.or_push N V 6 (by decide) hV]
     congr 1
    generalize N*2 ^ 6%4294967296+V=N2 at *
    obtain ⟨C,hC⟩:∃ C:Nat,c+6=C:=⟨_,rfl⟩
    have n2:(c:Int)+6=(C:Int):=by omega
    have e1:(C:Int)%4294967296=(C:Int):=by omega
    have zV:((V:Int)==64)=false:=beq_eq_false_iff_ne.2 (by omega)
    have HGD:=hide (HGD2.out hV)
    rw[hC] at hW2
    by_cases h8:8≤C
    ·obtain ⟨c2,rfl⟩:∃ c2,C=c2+8:=⟨C-8,by omega⟩
     obtain ⟨ht,hW3⟩:=hW2.take HBT.out
     have n3:(((c2+8:Nat):Int)-8)=(c2:Int):=by omega
     have n4:(((c2+8:Nat):Int)-8)%4294967296=(c2:Int):=by omega
     have hmin:min c2 32=c2:=by omega
     have hdd:((N2:Int)/2 ^ c2)=((N2/2 ^ c2:Nat):Int):=by rw[Int.natCast_ediv,Int.natCast_pow];rfl
     have ht':N2/2 ^ c2%256=B64.val P (8*q) 8:=ht
     obtain ⟨X,hX⟩:∃ X,N2/2 ^ c2=X:=⟨_,rfl⟩
     rw[hX] at hdd ht'
     have hnx:=B64.decN_succ P q
     rw[←ht'] at hnx
     have E8:=hide (show (X:Int)%256=(((UInt8.ofNat (X%256)).toNat:Nat):Int) by simp)
     have j8:(8:Int)≤((c2+8:Nat):Int):=by omega
     have HNX:=hide hnx
     have HST:=hide (show 8*(q+1)+c2=6*(i+1)∧c2<8∧B64.Wait P 8 (q+1) c2 N2 from ⟨by omega,by omega,hW3⟩)
     have hqb:q≤17000000000:=by omega
     have HLT:=hide hlt
     obtain ⟨ao,cap,rfl,hd1,hd2⟩:=Row.anyN HR.out
     unfold maxLen at hd2
     clear hW hW2 hW3 ht ht' hnx hq hc hC hX hv hbd hple hV hi HGD2 h8
     go_wp2_with (at_builtin;refine wpList_append_u8 rfl (.tmp 33) (.tmp 38) rfl w.heap.size _ q _ rfl ((HR.out.drewN m).alloc _) ⟨wr.heap.size,0,none⟩ 1 1 [UInt8.ofNat (X%256)] rfl rfl (one_news E8.out (World.cell?_alloc_at _ _ _ _ rfl)) ?_ ?_ ?_;omega;(simp;omega);intro v1 w1 hr1 hg1 hat1)
     go_roundw
     case rel=>
      have:=HLT.out
      refine ⟨i+1,q+1,c2,N2,by omega,by go_num,rfl,rfl,HST.out.1,HST.out.2.1,HST.out.2.2,HGD.out,?_,Below.grown ((below_drewN HBE.out m).alloc hsz _) hg1 (by simp;omega) (fun k hk=>(HR.out.lt k hk).1)⟩
      rw[HNX.out]
      exact hr1
     case measure=>have:=HLT.out;simp[intOf];omega
    ·have HST:=hide (show 8*q+C=6*(i+1)∧C<8∧B64.Wait P 8 q C N2 from ⟨by omega,by omega,hW2⟩)
     have j8:¬ (8:Int)≤(C:Int):=by omega
     have HLT:=hide hlt
     clear hW hW2 hq hc hC hv hbd hple hV hi HGD2 h8
     go_wp2
     go_roundw
     case rel=>
      have:=HLT.out
      exact ⟨i+1,q,C,N2,by omega,by go_num,rfl,rfl,HST.out.1,HST.out.2.1,HST.out.2.2,HGD.out,HR.out.drewN m,below_drewN HBE.out m⟩
     case measure=>have:=HLT.out;simp[intOf];omega
   ·have hV64:V=64:=by omega
    have ha:=hbd hV
    subst hV64
    subst ha
    clear hbd hv hple hV hW hq hc hi hlt HGD2
    go_wp2
    refine bodyPost_ret (results_tmp2 rfl _ _ _) rfl ?_
    exact ⟨rfl,below_drewN HBE.out m⟩
  ·obtain rfl:i=s.size:=by omega
   have jj:¬ ((s.size:Int)<(s.size:Int)):=by omega
   have hall:∀ x ∈ s.data.toList,B64.place x<64:=by
    intro x hx
    obtain ⟨k,hk,rfl⟩:=List.getElem_of_mem hx
    exact hgood k hk (by rw[←HLEN.out];exact hk)
   have ha:=HEQ.out q c N hW hq hc hall
   have hNl:=hW.lt
   have HBE:=hide hbe
   obtain ⟨ao2,cap2,rfl,hd1,hd2,hcv⟩:=Row.strAny hr
   unfold maxLen at hd2
   by_cases h6:6≤c
   ·rw[if_neg (by omega)] at ha
    subst ha
    have j6:(6:Int)≤(c:Int):=by omega
    clear hr hbe hW hq hc hgood hall hlt hi h6
    go_wp2
    refine bodyPost_ret (results_tmp2 rfl _ _ _) rfl ?_
    exact ⟨rfl,HBE.out⟩
   ·have j6:¬ (6:Int)≤(c:Int):=by omega
    have hmin:min c 32=c:=by omega
    have n1:=B64.andLow N c hNl (by omega)
    have hpw:2 ^ c≤64:=Nat.pow_le_pow_right (n:=2) (by decide) (show c≤6 by omega)
    have hp0:=Nat.two_pow_pos c
    obtain ⟨K,hK⟩:∃ K:Nat,2 ^ c-1=K:=⟨_,rfl⟩
    have n2:((2:Int) ^ c%4294967296)=(2:Int) ^ c:=by
     have:((2 ^ c:Nat):Int)%4294967296=((2 ^ c:Nat):Int):=by omega
     rw[Int.natCast_pow] at this
     exact this
    have n3:((2:Int) ^ c-1)=(K:Int):=by
     have:((2 ^ c:Nat):Int)-1=(K:Int):=by omega
     rw[Int.natCast_pow] at this
     exact this
    have n4:(K:Int)%4294967296=(K:Int):=by omega
    rw[hK] at n1
    obtain ⟨R,hR⟩:∃ R:Nat,N%2 ^ c=R:=⟨_,rfl⟩
    rw[hR] at n1 ha
    by_cases hR0:R=0
    ·subst hR0
     rw[if_pos ⟨by omega,rfl⟩] at ha
     subst ha
     clear hr hbe hW hq hc hgood hall hlt hi h6 hR hK hpw hp0 hNl
     go_wp2
     refine bodyPost_ret (results_tmp2 rfl _ _ _) rfl ?_
     exact ⟨rfl,HBE.out⟩
    ·rw[if_neg (fun h=>hR0 h.2)] at ha
     subst ha
     have zR:((R:Int) != 0)=true:=by rw[bne_iff_ne];omega
     clear hr hbe hW hq hc hgood hall hlt hi h6 hR hK hpw hp0 hNl hR0
     go_wp2
     refine bodyPost_ret (results_tmp2 rfl _ _ _) rfl ?_
     exact ⟨rfl,HBE.out⟩
end Go.Proofs.YtoifalcpfnacnaaGreatDoor
