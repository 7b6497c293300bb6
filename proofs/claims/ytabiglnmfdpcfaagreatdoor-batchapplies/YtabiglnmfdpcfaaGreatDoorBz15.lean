/- ShaNil's walk: the law returns true at every b, and nothing that was in memory turns. -/
import Derived.Test.YtabiglnmfdpcfaaGreatDoorBz01
import Derived.Test.YtabiglnmfdpcfaaGreatDoorBz14
import Derived.Lib.SlBytesConst
import Derived.Test.YtabiglnmfdpcfaaGreatDoorBz13
import Derived.Laws.ResultCell
namespace Go.Proofs.YtabiglnmfdpcfaaGreatDoor
variable {base c g gs n room:Nat}
variable {cs:Lz}
variable {fr pend:List Nat}
variable {mk:Bool}
variable {sp zs:Lq}
variable {v vf vp:Value}
variable {w w':World}
set_option maxHeartbeats 4000000
set_option maxRecDepth 20000
open Go.RowKit

end Go.Proofs.YtabiglnmfdpcfaaGreatDoor

namespace Go.Proofs.YtabiglnmfdpcfaaGreatDoor
variable {base c g gs n room:Nat}
variable {cs:Lz}
variable {fr pend:List Nat}
variable {mk:Bool}
variable {sp zs:Lq}
variable {v vf vp:Value}
variable {w w':World}
set_option maxHeartbeats 4000000
set_option maxRecDepth 20000
open Go.RowKit

theorem zero_b32':∀w,(zeroValue 33).run Tryz.prog w=.ok (.agg (B (List.replicate 32 0))) w:=Tryz.zeroValue33

theorem out_get (W:Lq) (i:Nat) (hi:i / 4<W.length):(out W).getD i 0=W.getD (i / 4) 0 / 2 ^ (24-8 * (i % 4)) % 256:=by
  induction W generalizing i with
  | nil=>simp at hi
  | cons a W ih=>
    have e:out (a::W)=[a / 16777216 % 256,a / 65536 % 256,a / 256 % 256,a % 256]++out W:=by simp [out]
    rw [e]
    by_cases h4:i<4
    · have hd:i / 4=0:=by omega
      rw [hd]
      match i,h4 with
      | 0,_=>simp
      | 1,_=>simp
      | 2,_=>simp
      | 3,_=>simp
    · obtain ⟨j,rfl⟩:∃j,i=j+4:=⟨i-4,by omega⟩
      have h1:=ih j (by simp at hi;omega);rw [show (j+4) / 4=j / 4+1 by omega,show (j+4) % 4=j % 4 by omega,List.getD_cons_succ,← h1];simp [List.getD]

theorem Own.cells {a:Option Addr} (h:Own base w (.slice a n c) zs sp) (hp:0<zs.length):∃g,a=some ⟨g,0,none⟩∧base≤g∧g<w.heap.size∧n=zs.length∧n≤c∧∀i,i<zs.length→w.cell? ⟨g,i,none⟩=some (.int .u8 (zs.getD i 0)):=by
  obtain ⟨h1,h2,h3,h4⟩:=h;rcases h4 with ⟨e,rfl,rfl⟩ | ⟨g,rest,hg,e,hr⟩
  · simp at hp
  · injection e with e1 e2 e3
    subst e1;refine ⟨g,rfl,hg,hr.lt,e2,by omega,fun i hi=>?_⟩;rw [hr.cell i (by simp;omega),List.append_assoc];simp [List.getD,List.getElem?_append_left hi]

theorem whole_over (xs ys:List Value) (h:xs.length=ys.length):(xs.take 0++(ys++xs.drop (0+ys.length))).toArray=ys.toArray:=by
  rw [List.take_zero,List.nil_append,List.drop_of_length_le (by omega),List.append_nil]

theorem take_set_next (l:Lq) (i m:Nat) (hi:i<l.length):(l.take i++List.replicate (m+1) 0).set i (l.getD i 0)=l.take (i+1)++List.replicate m 0:=by
  have hl:(l.take i).length=i:=by simp;omega
  rw [List.replicate_succ,List.set_append_right _ _ (by omega),hl,Nat.sub_self,List.set_cons_zero,List.take_succ_eq_append_getElem hi,List.append_assoc];simp only [List.getD,List.getElem?_eq_getElem hi,Option.getD_some,List.singleton_append]

set_option maxRecDepth 10000 in
theorem refSum_any (v:Value) (bs:Lq) (w:World) (hr:Reads w v bs) (hlen:bs.length≤140737488355328-4096):
    Kc 137 #[v] w fun e w'=>e=.returned (.agg (B (dig bs)))∧Kb w w':=by
  have HR:=hidden hr;obtain ⟨a,c,rfl,hlc,_,hby,_⟩:=hr;have HBY:=hidden hby;clear hby;obtain ⟨n,hn⟩:∃n,n=bs.length:=⟨_,rfl⟩;have HN:=hidden hn;rw [← hn] at hlen hlc ⊢;obtain ⟨q,hq⟩:∃q,q=(119-n % 64) % 64:=⟨_,rfl⟩;have HQ:=hidden hq;have q64:q<64:=by omega
  clear hq hn;go_enter Tryz.func137,Tryz.ntmps137
  go_wp2_with (first
    |(refine wpList_al _ rfl _ rfl _ zero_b32' ?_;intro w1 g1 hg1 hl1 B1 b1;have R1:=HR.out.grow b1;rw [← HN.out] at R1)
    |(at_builtin;have hx:=o2;clear hx;refine wpList_app _ rfl _ _ rfl w1.heap.size _ _ bs sp2 [128] (o2.grow (grow_alloc _ _)) (one_reads _ _ (by omega) (by omega)) rfl rfl (by rw [← HN.out];simp;omega) (by have:=g2.size;simp at this ⊢;omega) ?_;intro v3 w3 sp3 o3 g3 e3 f3)
    |(at_builtin;refine wpList_app _ rfl _ _ rfl w1.heap.size _ _ [] [] bs (Own.empty _ _ (Nat.le_refl _)) (R1.grow (grow_alloc _ _)) rfl rfl (by rw [← HN.out];simp;omega) (by simp) ?_;intro v2 w2 sp2 o2 g2 e2 f2))
  have c1:Kb w1 (w1.alloc (.cells #[] 5)):=grow_alloc _ _;have c2:Kb w1 w2:=c1.grown g2 c1.size (fun k hk=>((Own.empty w1.heap.size w1 (Nat.le_refl _)).lt k hk).1);have c3:Kb w1 w3:=(c2.trans ((grow_alloc w2 (.cells #[.int .u8 128] 5)).mono c2.size)).grown g3 (by have:=c2.size;simp;omega) (fun k hk=>(o2.lt k hk).1);obtain ⟨a3,q3,hv3⟩:=o3.slice;have hv3':v3=.slice a3 (n+1+0) q3:=by
    rw [hv3,List.length_append,HN.out];rfl
  subst hv3';have O3:Hid (Own w1.heap.size w3 (.slice a3 (n+1+0) q3) (bs++128::List.replicate 0 0) sp3):=o3;obtain ⟨L3,hL3⟩:∃L,L=n+1+0:=⟨_,rfl⟩;have HL3:=hidden hL3;rw [← hL3] at O3 ⊢;clear hL3 hv3 o2 o3 g2 g3 e2 e3 f2 f3 c1 c2 R1
  go_loopw [3] (fun v wr=>∃(j L:Nat) (a':Option Addr) (c':Nat) (sp:Lq),j≤q∧Hid (L=n+1+j)∧v=.slice a' L c'∧Hid (Own w1.heap.size wr (.slice a' L c') (bs++128::List.replicate j 0) sp)∧Kb w1 wr) (fun v _=>n+1+q-slen v)
  case atStart=>exact ⟨0,L3,a3,q3,sp3,by omega,HL3,rfl,O3,c3⟩
  case round=>
    clear O3 c3;obtain ⟨j,L,a',c',sp,hj,hL,rfl,hO,hbl⟩:=hrel;have L0:(0:Int)≤(L:Int):=by omega
    by_cases hlt:j<q
    · have hne:((L:Int) % 64 == 56)=false:=beq_eq_false_iff_ne.2 (by have:=hL.out;have:=HQ.out;omega)
      have hne2: ¬((L:Int) % 64=56):=by have:=hL.out;have:=HQ.out;omega
      have hLl:L≤140737488355328-4000:=by have:=hL.out;omega
      go_wp2_with (at_builtin;refine wpList_app _ rfl _ _ rfl w1.heap.size _ _ (bs++128::List.replicate j 0) sp [0] (hO.out.grow (grow_alloc _ _)) (one_reads _ _ (by omega) (by omega)) rfl rfl (by have:=hL.out;simp [← HN.out];omega) (by have:=hbl.size;simp;omega) ?_;intro v' w' sp' h1 h2 h3 h4)
      obtain ⟨a'',c'',hv'⟩:=h1.slice;have hLn:(bs++128::List.replicate j 0++[0]).length=L+1:=by
        have:=hL.out;simp [← HN.out];omega
      rw [hLn] at hv';subst hv';have hb':Kb w1 w':=(hbl.trans ((grow_alloc wr (.cells #[.int .u8 0] 5)).mono hbl.size)).grown h2 (by have:=hbl.size;simp;omega) (fun k hk=>(hO.out.lt k hk).1);have h1':Own w1.heap.size w' (.slice a'' (L+1) c'') (bs++128::List.replicate (j+1) 0) sp':=by
        rw [List.replicate_succ'];simpa using h1
      exact ⟨⟨j+1,L+1,a'',c'',sp',by omega,by show _=_;have:=hL.out;omega,rfl,h1',hb'⟩,by have:=hL.out;simp [slen];omega⟩
    · have hjq:j=q:=by omega
      have hne:((L:Int) % 64 == 56)=true:=beq_iff_eq.2 (by have:=hL.out;have:=HQ.out;omega);have hne2:((L:Int) % 64=56):=by have:=hL.out;have:=HQ.out;omega
      have O0:Hid (Own w1.heap.size wr (.slice a' L c') (bs++(128::List.replicate q 0++be8 (8 * (n:Int)) 0)) sp):=by
        have:=hO.out;rw [hjq] at this;show Own _ _ _ _ _;simpa [be8] using this
      have HL0:Hid (L=n+1+q+0):=by have:=hL.out;show _=_;omega
      clear hO hL hjq
      go_wp2_with fail
      clear hne hne2
      go_loopw [3,5] (fun v i wr=>∃(j L:Nat) (a':Option Addr) (c':Nat) (sp:Lq),j≤8∧Hid (L=n+1+q+j)∧i=.int .i64 (7-(j:Int))∧v=.slice a' L c'∧Hid (Own w1.heap.size wr (.slice a' L c') (bs++(128::List.replicate q 0++be8 (8 * (n:Int)) j)) sp)∧Kb w1 wr) (fun _ i _=>(intOf i+1).toNat)
      case atStart=>exact ⟨0,L,a',c',sp,by omega,HL0,rfl,rfl,O0,hbl⟩
      case round=>
        clear O0 HL0 hbl L0 hlt hj;obtain ⟨j,L,a',c',sp,hj,hL,rfl,rfl,hO,hbl⟩:=hrel;obtain ⟨w7,rfl⟩:∃x,x=wr:=⟨_,rfl⟩
        by_cases hlt:j<8
        · obtain ⟨s,hs⟩:∃s:Nat,7-(j:Int)=(s:Int):=⟨7-j,by omega⟩
          have HS:Hid (s=7-j):=by show s=_;omega
          have s0:(0:Int)≤(s:Int):=by omega
          have s1:(s:Int)≤7:=by omega
          obtain ⟨u,hu⟩:∃u:Nat,8 * (s:Int)=(u:Int):=⟨8 * s,by omega⟩;have HU:Hid (u=8 * s):=by show u=_;omega
          have u0:(0:Int)≤(u:Int):=by omega
          have u1:(u:Int)<64:=by omega
          have ru:IntKind.i64.wrap (u:Int)=(u:Int):=by rw [IntKind.wrap_i64];omega
          rw [hs];have HE:Hid (be8 (8 * (n:Int)) (j+1)=be8 (8 * (n:Int)) j++[(n:Int) * 8 / 2 ^ u % 256]):=by
            show _=_;rw [be8,HU.out,HS.out,Int.mul_comm]
          have z0:0≤(n:Int) * 8 / 2 ^ u % 256:=by omega
          have z1:(n:Int) * 8 / 2 ^ u % 256≤255:=by omega
          clear hs
          go_wp2_with (at_builtin;refine wpList_app _ rfl _ _ rfl w1.heap.size _ _ (bs++(128::List.replicate q 0++be8 (8 * (n:Int)) j)) sp [(n:Int) * 8 / 2 ^ u % 256] (hO.out.grow (grow_alloc _ _)) (one_reads _ _ z0 z1) rfl rfl (by have:=hL.out;simp [← HN.out,be8_length];omega) (by have:=hbl.size;simp;omega) ?_;intro v' w' sp' h1 h2 h3 h4)
          obtain ⟨a'',c'',hv'⟩:=h1.slice;have hLn:(bs++(128::List.replicate q 0++be8 (8 * (n:Int)) j)++[(n:Int) * 8 / 2 ^ u % 256]).length=L+1:=by
            have:=hL.out;simp [← HN.out,be8_length];omega
          rw [hLn] at hv';subst hv';have hb':Kb w1 w':=(hbl.trans ((grow_alloc w7 (.cells #[.int .u8 ((n:Int) * 8 / 2 ^ u % 256)] 5)).mono hbl.size)).grown h2 (by have:=hbl.size;simp;omega) (fun k hk=>(hO.out.lt k hk).1);have h1':Own w1.heap.size w' (.slice a'' (L+1) c'') (bs++(128::List.replicate q 0++be8 (8 * (n:Int)) (j+1))) sp':=by
            rw [HE.out];simpa using h1
          refine ⟨⟨j+1,L+1,a'',c'',sp',by omega,by show _=_;have:=hL.out;omega,?_,rfl,h1',hb'⟩,?_⟩
          · have:=HS.out
            congr 1
            omega
          · have:=HS.out
            simp [intOf]
        · obtain rfl:j=8:=by omega
          rw [show (7:Int)-((8:Nat):Int)= -1 from rfl];have OL:Hid (Own w1.heap.size w7 (.slice a' L c') (bs++pad n) sp):=by
            have:=hO.out;show Own _ _ _ _ _;rw [pad,← HQ.out];exact this
          have HLL:Hid (L=(bs++pad n).length):=by
            have:=hL.out;have:=HQ.out;show _=_;rw [List.length_append,pad_length,← HN.out];omega
          have HL64:Hid (L % 64=0):=by
            have:=hL.out;have:=HQ.out;show _=_;omega
          have hLl:L≤140737488355328-3900:=by have:=hL.out;omega
          clear hO hL
          go_wp2_with (first | (refine wpList_bld _ rfl _ _ rfl (U hs) (by kernel_rfl) ?_) | (refine wpList_al _ rfl _ rfl _ zero_w8 ?_;intro w8 g8 hg8 hl8 B8 b8) | (refine wpList_sto _ rfl _ _ _ rfl g8 _ (U hs) rfl rfl B8 (by exact size_w8) (by rw [U_size];rfl) (U_one _) ?_;intro w9 B9 gg9))
          have hT0:0<(bs++pad n).length:=by rw [List.length_append,pad_length];omega
          obtain ⟨gl,ha',hgl,hgl7,hLT,hLc,hcl⟩:=OL.out.cells hT0;subst ha';have n81:g1≠g8:=by omega
          have n8l:gl≠g8:=by omega
          have CL:Hid (∀i,i<L→w9.cell? ⟨gl,i,none⟩=some (.int .u8 ((bs++pad n).getD i 0))):=by
            intro i hi;have h1:=hcl i (by rw [← HLL.out];exact hi);have h2:=below_cell b8 h1;have h3:=gg9.block gl (block_lt_of_cell h2) (fun e=>n8l (by injection e));rw [← h2];unfold World.cell?;simp only [h3]
          have HB9:Hid (Blk w9 g8 195 (U (eat (bs++pad n) 0))):=B9;have c7:=b1.trans (hbl.mono b1.size);have c8:=c7.trans (b8.mono c7.size);have c9:=hidden (below_row c8 gg9 (by have:=c7.size;omega));have HB1:Hid (Blk w9 g1 33 (B (List.replicate 32 0))):=((B1.grow hbl).grow b8).kept gg9 n81;have HTB:Hid (Bytes (bs++pad n)):=HBY.out.append (pad_bytes n);have HDG:Hid (dig bs=out (eat (bs++pad n) (L / 64))):=by
            show _=_;rw [dig,← HN.out,HLL.out,List.length_append,← HN.out]
          have m8:w.heap.size≤g8:=by have:=c7.size;omega
          clear OL hcl B8 b8 B9 gg9 c7 c8 hbl hT0 hgl hgl7 hg8 hl8 B1 hLT;generalize bs++pad n=T at *
          go_loopw [7] (fun i wr=>∃k ii:Nat,Hid (ii=64 * k)∧ii≤L∧i=.int .i64 ii∧Hid (Blk wr g8 195 (U (eat T k)))∧Hid (Blk wr g1 33 (B (List.replicate 32 0)))∧Hid (∀i,i<L→wr.cell? ⟨gl,i,none⟩=some (.int .u8 (T.getD i 0)))∧Hid (Kb w wr)) (fun i _=>L-(intOf i).toNat)
          case atStart=>exact ⟨0,0,rfl,by omega,rfl,HB9,HB1,CL,c9⟩
          case round=>
            clear HB9 HB1 CL c9;obtain ⟨k,ii,hii,hiL,rfl,hB8,hB1,hCL,hbl⟩:=hrel;obtain ⟨w10,rfl⟩:∃x,x=wr:=⟨_,rfl⟩;have i0:(0:Int)≤(ii:Int):=by omega
            by_cases hlt:ii<L
            · obtain ⟨e,he⟩:∃e:Nat,(ii:Int)+64=(e:Int):=⟨ii+64,by omega⟩
              have i1:(ii:Int)<(L:Int):=by omega
              have HEE:Hid (e=ii+64):=by show e=_;omega
              have heL:e≤L:=by have:=hii.out;have:=HEE.out;have:=HL64.out;omega
              have e0:(0:Int)≤(e:Int):=by omega
              have e1:(ii:Int)≤(e:Int):=by omega
              have e2:(e:Int)≤(c':Int):=by omega
              have re:IntKind.i64.wrap (e:Int)=(e:Int):=by rw [IntKind.wrap_i64];omega
              have e3:e-ii=64:=by omega
              have e4: ¬(c'=ii):=by omega
              have e5:(ii:Int)≤(c':Int):=by omega
              have hU8:Hid ((U (eat T k)).toList.length=8):=by rw [U_toList,List.length_map];exact eat_length _ _
              go_wp2_with fail
              refine wp_region_any (by kernel_rfl) ?_
              change wpAny _ _ _ _ _ _ _ (World.drew _)
              refine wpAny_take (i:=1) (v:=.slice (some ⟨gl,0,none⟩) L c') rfl (by kernel_rfl) (by kernel_rfl) (by kernel_rfl) (fun _ _ _ h=>h) (Or.inl ⟨by rfl,fun w=>by go_simp⟩) ?_;simp only [Act.put,zq1,zq2,zq3,zq4,zq5,zq6];refine wpAny_take (i:=2) (v:=.int .i64 (ii:Int)) rfl (by kernel_rfl) (by kernel_rfl) (by kernel_rfl) (fun _ _ _ h=>h) (Or.inl ⟨by rfl,fun w=>by go_simp⟩) ?_;simp only [Act.put,zq1,zq2,zq3,zq4,zq5,zq6];refine wpAny_take (i:=3) (v:=.int .i64 (ii:Int)) rfl (by kernel_rfl) (by kernel_rfl) (by kernel_rfl) (fun _ _ _ h=>h) (Or.inl ⟨by rfl,fun w=>by go_simp⟩) ?_;simp only [Act.put,zq1,zq2,zq3,zq4,zq5,zq6];refine wpAny_take (i:=4) (v:=.int .i64 (e:Int)) rfl (by kernel_rfl) (by kernel_rfl) (by kernel_rfl) (fun _ _ _ h=>h) (Or.inl ⟨by rfl,fun w=>by go_simp⟩) ?_;simp only [Act.put,zq1,zq2,zq3,zq4,zq5,zq6];refine wpAny_take (i:=5) (v:=.slice (some ⟨gl,ii,none⟩) 64 (c'-ii)) rfl (by kernel_rfl) (by kernel_rfl) (by kernel_rfl) (fun _ _ _ h=>h) (Or.inl ⟨by rfl,fun w=>by go_simp⟩) ?_;simp only [Act.put,zq1,zq2,zq3,zq4,zq5,zq6];refine wpAny_ready (rs:=[0]) (by kernel_rfl) (by simp) ?_;refine AllReady.cons rfl (fun K hK=>?_) AllReady.nil;refine step_ldm _ rfl _ _ rfl g8 0 rfl (U (eat T k)).toList hB8.out.range _ Tryz.underlying195 rfl (by rw [hU8.out];exact size_w8) ?_;refine hK _ _ ?_;clear hK K;simp only [Act.put,zq1,zq2,zq4,zq5,zq6];refine wpAny_ready (rs:=[6]) (by kernel_rfl) (by simp) ?_;refine AllReady.cons rfl (fun K hK=>?_) AllReady.nil;go_simp;have hlT:((T.drop ii).take 64).length=64:=by
                have:=HLL.out;have:=HEE.out;rw [List.length_take,List.length_drop];omega
              refine (refStep_any gl ii (c'-ii) (eat T k) ((T.drop ii).take 64) w10.drew (eat_length _ _) ((HTB.out.drop _).take _) ?hc).mono ?_
              case hc=>
                intro i hi;have h1:=hCL.out (ii+i) (by have:=HEE.out;omega);have h2:((T.drop ii).take 64).getD i 0=T.getD (ii+i) 0:=by
                  simp [List.getD,hi,List.getElem?_drop]
                rw [h2];exact h1
              rintro ee w11 ⟨rfl,b11⟩;have hb11:Kb w10 w11:=grow_trans (Below.refl _ _).drew b11;refine hK _ _ ?_;clear hK K;refine wpAny_ready (rs:=[7]) (by kernel_rfl) (by simp) ?_;refine AllReady.cons rfl (fun K hK=>?_) AllReady.nil;have B11:=hB8.out.grow hb11;have hl8:(stp (eat T k) ((T.drop ii).take 64)).length=8:=stp_length _ _ (eat_length _ _);have hz8:(U (stp (eat T k) ((T.drop ii).take 64))).size=8:=by rw [U_size];exact hl8
              refine step_stm _ rfl _ _ _ rfl g8 0 (U (stp (eat T k) ((T.drop ii).take 64))) rfl rfl (by
                rw [hz8];intro j hj;rw [Nat.zero_add];exact ⟨by rw [B11.wcell j (by rw [eat_length];exact hj)];rfl,B11.frozen j⟩) (by rw [hz8];exact size_w8) (U_one _) ?_
              refine hK _ _ ?_;clear hK K;refine wpAny_done (by kernel_rfl) ?_ _;simp only [Act.put,List.getElem_toArray,List.getElem_cons_zero,List.getElem_cons_succ];have G12:=grown_setCells g8 (U (stp (eat T k) ((T.drop ii).take 64))).toList 0 w11;have B12:Blk (w11.setCells g8 0 (U (stp (eat T k) ((T.drop ii).take 64))).toList) g8 195 (U (eat T (k+1))):=by
                have h1:=B11.cells (U (stp (eat T k) ((T.drop ii).take 64))).toList 0 (by rw [U_size,eat_length,U_toList,List.length_map];omega);have h2:=whole_over (U (eat T k)).toList (U (stp (eat T k) ((T.drop ii).take 64))).toList (by rw [U_toList,U_toList,List.length_map,List.length_map,eat_length,hl8]);have h3:(U (stp (eat T k) ((T.drop ii).take 64))).toList.toArray=U (eat T (k+1)):=by
                  rw [eat,← hii.out]
                rw [h3] at h2;rw [h2] at h1;exact h1
              have B1':=(hB1.out.grow hb11).kept G12 n81;have C12:Hid (∀i,i<L→(w11.setCells g8 0 (U (stp (eat T k) ((T.drop ii).take 64))).toList).cell? ⟨gl,i,none⟩=some (.int .u8 (T.getD i 0))):=by
                intro i hi;have h2:=below_cell hb11 (hCL.out i hi);have h3:=G12.block gl (block_lt_of_cell h2) (fun e=>n8l (by injection e));rw [← h2];unfold World.cell?;simp only [h3]
              have hb12:=below_row (hbl.out.trans (hb11.mono hbl.out.size)) G12 m8;clear B11 hl8 hz8 G12 hb11 b11;generalize w11.setCells g8 0 (U (stp (eat T k) ((T.drop ii).take 64))).toList=w12 at *;go_wp2
              exact ⟨⟨k+1,e,by show _=_;have:=hii.out;have:=HEE.out;omega,heL,rfl,B12,B1',C12,hb12⟩,by have:=HEE.out;simp [intOf];omega⟩
            · have hiL2:ii=L:=by omega
              have HB8:Hid (Blk w10 g8 195 (U (eat T (L / 64)))):=by
                have hk:k=L / 64:=by have:=hii.out;omega
                rw [← hk];exact hB8
              have hW8:(eat T (L / 64)).length=8:=eat_length _ _;generalize eat T (L / 64)=W at *;have HW8:=hidden hW8;have j1: ¬((ii:Int)<(L:Int)):=by omega
              clear hW8 hB8 hCL hlt;have m1:w.heap.size≤g1:=hg1
              go_wp2_with (first | (refine wpList_al _ rfl _ rfl _ zero_b32' ?_;intro w13 g13 hg13 hl13 B13 b13))
              have n138:g8≠g13:=by have:=HB8.out.lt;omega
              have n131:g1≠g13:=by have:=hB1.out.lt;omega
              have HB8':=hidden (HB8.out.grow b13);have HB1':=hidden (hB1.out.grow b13);have HB13:Hid (Blk w13 g13 33 (B ((out W).take 0++List.replicate (32-0) 0))):=B13;have hb13:=hidden (hbl.out.trans (b13.mono hbl.out.size));have m13:w.heap.size≤g13:=by have:=hbl.out.size;omega
              clear HB8 hB1 B13 b13 hg13 hl13 hbl
              go_loopw [9] (fun i wr=>∃k:Nat,k≤32∧i=.int .i64 k∧Hid (Blk wr g8 195 (U W))∧Hid (Blk wr g1 33 (B (List.replicate 32 0)))∧Hid (Blk wr g13 33 (B ((out W).take k++List.replicate (32-k) 0)))∧Hid (Kb w wr)) (fun i _=>32-(intOf i).toNat)
              case atStart=>exact ⟨0,by omega,rfl,HB8',HB1',HB13,hb13⟩
              case round=>
                clear HB8' HB1' HB13 hb13;obtain ⟨k,hk,rfl,hB8,hB1,hB13,hbl⟩:=hrel;obtain ⟨w14,rfl⟩:∃x,x=wr:=⟨_,rfl⟩;have k0:(0:Int)≤(k:Int):=by omega
                by_cases hlt:k<32
                · obtain ⟨d,hd⟩:∃d:Nat,(k:Int) / 4=(d:Int):=⟨k / 4,by omega⟩
                  obtain ⟨r,hr⟩:∃r:Nat,(k:Int) % 4=(r:Int):=⟨k % 4,by omega⟩;obtain ⟨r8,hr8⟩:∃r8:Nat,8 * (r:Int)=(r8:Int):=⟨8 * r,by omega⟩;obtain ⟨sh,hsh⟩:∃sh:Nat,24-(r8:Int)=(sh:Int):=⟨24-r8,by omega⟩;have HD:Hid (d=k / 4∧sh=24-8 * (k % 4)):=by
                    constructor <;> omega
                  have rr8:IntKind.i64.wrap (r8:Int)=(r8:Int):=by rw [IntKind.wrap_i64];omega
                  have rsh:IntKind.i64.wrap (sh:Int)=(sh:Int):=by rw [IntKind.wrap_i64];omega
                  have k1:(k:Int)<32:=by omega
                  have d0:(0:Int)≤(d:Int):=by omega
                  have d1:(d:Int)<8:=by omega
                  have sh0:(0:Int)≤(sh:Int):=by omega
                  have sh1:(sh:Int)≤24:=by omega
                  have cw:=hB8.out.wcell d (by have:=HW8.out;omega);have hol:(out W).length=32:=by rw [out_length,HW8.out]
                  have cb:=hB13.out.bcell k (by simp [hol];omega);have cf:=hB13.out.frozen k;have HG:Hid ((out W).getD k 0=W.getD d 0 / 2 ^ sh % 256):=by
                    have:=HD.out;rw [this.1,this.2];exact out_get W k (by have:=HW8.out;omega)
                  have HTS:=hidden (take_set_next (out W) k (32-(k+1)) (by omega));generalize ((out W).take k++List.replicate (32-k) 0).getD k 0=old at cb;generalize W.getD d 0=x at *;clear hol
                  go_wp2_with fail
                  have hn:Blk (w14.setCell ⟨g13,k,none⟩ (.int .u8 (x / 2 ^ sh % 256))) g13 33 (B ((out W).take (k+1)++List.replicate (32-(k+1)) 0)):=by
                    have h:=hB13.out.set k (.int .u8 (x / 2 ^ sh % 256));have e1:=HTS.out;rw [show 32-(k+1)+1=32-k by omega,HG.out] at e1;rw [B_set,e1] at h;exact h
                  exact ⟨⟨k+1,by omega,by go_num,hB8.out.other _ _ n138,hB1.out.other _ _ n131,hn,setCell_below _ _ hbl.out m13⟩,by simp [intOf];omega⟩
                · obtain rfl:k=32:=by omega
                  have HF:Hid (Blk w14 g13 33 (B (out W))):=by
                    have:Blk w14 g13 33 (B ((out W).take 32++List.replicate (32-32) 0)):=hB13.out;rw [List.take_of_length_le (by rw [out_length,HW8.out];omega),show 32-32=0 from rfl,List.replicate_zero,List.append_nil] at this;exact this
                  have HSZ:Hid ((B (out W)).size=32):=by rw [B_size,out_length,HW8.out];exact rfl
                  go_wp2_with (first | (refine wpList_ld _ rfl _ _ rfl g13 _ rfl HF.out 32 _ Tryz.underlying33 (by rw [HSZ.out];exact size_b32) ?_) | (refine wpList_sto _ rfl _ _ _ rfl g1 _ _ rfl rfl hB1.out (by rw [HSZ.out];exact size_b32) (by rw [HSZ.out,B_size];simp) (B_one _) ?_;intro wZ BZ gZ))
                  exact bodyPost_ret (v:=.agg (B (out W))) (results_cell_row rfl _ _ g1 _ _ _ _ rfl BZ Tryz.underlying33 rfl (by rw [HSZ.out];exact size_b32)) rfl ⟨by rw [HDG.out],below_row hbl.out gZ m1⟩

end Go.Proofs.YtabiglnmfdpcfaaGreatDoor

namespace Go.Proofs.YtabiglnmfdpcfaaGreatDoor
variable {base c g gs n room:Nat}
variable {cs:Lz}
variable {fr pend:List Nat}
variable {mk:Bool}
variable {sp zs:Lq}
variable {v vf vp:Value}
variable {w w':World}
set_option maxHeartbeats 4000000
set_option maxRecDepth 20000
open Go.RowKit

theorem refOf_any (t:Int) (v:Value) (ps:List (Lq)) (w:World) (h0:0≤t) (h1:t≤255) (h:Parts w v ps) (hl:1+ps.flatten.length≤140737488355328-4096):
    Kc 136 #[.int .u8 t,v] w (DigPost (t::ps.flatten) w):=by
  have HT:Hid (∀w',Kb w w'→Kc 157 #[.int .u8 t,v] w' (JoinPost (t::ps.flatten) w')):=by
    intro w' hw';obtain ⟨a,cap,V,rfl,q1,q2,q3,q4⟩:=h;refine refText_any t _ ps w' h0 h1 ⟨a,cap,V,rfl,q1,q2,fun hp=>?_,fun i hi=>(q4 i hi).grow hw'⟩ (by omega);obtain ⟨b,off,e,hc⟩:=q3 hp;exact ⟨b,off,e,fun i hi=>(hw'.cell (p:=⟨b,off+i,none⟩) (block_lt_of_cell (hc i hi))).trans (hc i hi)⟩
  obtain ⟨D,hD⟩:∃D,D=dig (t::ps.flatten):=⟨_,rfl⟩;have HD:=hidden hD;have HSZ:Hid ((B D).size=32):=by rw [B_size,hD];exact dig_length _
  have HS:Hid (∀u w',Reads w' u (t::ps.flatten)→Kc 137 #[u] w' fun e w''=>e=.returned (.agg (B D))∧Below w'.heap.size w' w''):=by
    intro u w' hu;rw [hD];exact refSum_any u _ w' hu (by rw [List.length_cons];omega)
  clear h hD hl;go_enter Tryz.func136,Tryz.ntmps136
  go_wp2_with (first | (refine wpList_al _ rfl _ rfl _ zero_b32 ?_;intro w1 g1 hg1 hl1 B1 b1) | (go_at_call 157;refine (HT.out w1 b1).mono ?_;rintro e w2 ⟨u,sp,rfl,hO,b2⟩;have hR:=hO.reads;clear hO) | (go_at_call 137;refine (HS.out u w2 hR).mono ?_;rintro e w3 ⟨rfl,b3⟩;have B3:=(B1.grow b2).grow b3) | (refine wpList_sto _ rfl _ _ _ rfl g1 _ _ rfl rfl B3 (by rw [HSZ.out];exact size_b32) (by rw [HSZ.out,B_size];simp) (B_one _) ?_;intro w4 B4 g4))
  exact bodyPost_ret (v:=.agg (B D)) (results_cell_row rfl _ _ g1 _ _ _ _ rfl B4 Tryz.underlying33 rfl (by rw [HSZ.out];exact size_b32)) rfl ⟨by rw [HD.out],below_row (grow_trans (grow_trans b1 b2) b3) g4 hg1⟩

theorem refEmpty_any (w:World):Kc 97 #[] w (DigPost [0] w):=by
  obtain ⟨D,hD⟩:∃D,D=dig [0]:=⟨_,rfl⟩;have HD:=hidden hD;have HSZ:Hid ((B D).size=32):=by rw [B_size,hD];exact dig_length _
  have H:Hid (∀w',Kc 136 #[.int .u8 0,.slice none 0 0] w' fun e w''=>e=.returned (.agg (B D))∧Below w'.heap.size w' w''):=by
    intro w';rw [hD];exact refOf_any 0 _ [] w' (by omega) (by omega) (parts_nil w') (by simp)
  clear hD;go_enter Tryz.func97,Tryz.ntmps97
  go_wp2_with (first | (refine wpList_al _ rfl _ rfl _ zero_b32 ?_;intro w1 g1 hg1 hl1 B1 b1) | (go_at_call 136;refine (H.out _).mono ?_;rintro e w2 ⟨rfl,b2⟩;have B2:=B1.grow b2) | (refine wpList_sto _ rfl _ _ _ rfl g1 _ _ rfl rfl B2 (by rw [HSZ.out];exact size_b32) (by rw [HSZ.out,B_size];simp) (B_one _) ?_;intro w3 B3 g3))
  exact bodyPost_ret (v:=.agg (B D)) (results_cell_row rfl _ _ g1 _ _ _ _ rfl B3 Tryz.underlying33 rfl (by rw [HSZ.out];exact size_b32)) rfl ⟨by rw [HD.out],below_row (grow_trans b1 b2) g3 hg1⟩

theorem refValue_any (v:Value) (zs:Lq) (w:World) (h:Reads w v zs) (hl:zs.length<140737488355328-4096):Kc 99 #[v] w (DigPost (3::zs) w):=by
  obtain ⟨D,hD⟩:∃D,D=dig (3::zs):=⟨_,rfl⟩;have HD:=hidden hD;have HSZ:Hid ((B D).size=32):=by rw [B_size,hD];exact dig_length _
  have H:Hid (∀w',Kb w w'→Kc 136 #[.int .u8 3,.slice (some ⟨w'.heap.size,0,none⟩) 1 1] (w'.alloc (.cells #[v] 35)) fun e w''=>e=.returned (.agg (B D))∧Below w'.heap.size w' w''):=by
    intro w' hb;have h1:=refOf_any 3 _ [zs] _ (by omega) (by omega) (parts_one w' v zs (h.grow hb)) (by simp;omega);rw [show [zs].flatten=zs by simp] at h1;rw [hD];exact h1.mono fun e w'' ⟨h2,h3⟩=>⟨h2,grow_trans (grow_alloc _ _) h3⟩
  obtain ⟨va,vc,rfl,_,_,_,_⟩:=h;clear hD;go_enter Tryz.func99,Tryz.ntmps99
  go_wp2_with (first | (refine wpList_al _ rfl _ rfl _ zero_b32 ?_;intro w1 g1 hg1 hl1 B1 b1) | (go_at_call 136;refine (H.out w1 b1).mono ?_;rintro e w2 ⟨rfl,b2⟩;have B2:=B1.grow b2) | (refine wpList_sto _ rfl _ _ _ rfl g1 _ _ rfl rfl B2 (by rw [HSZ.out];exact size_b32) (by rw [HSZ.out,B_size];simp) (B_one _) ?_;intro w3 B3 g3))
  exact bodyPost_ret (v:=.agg (B D)) (results_cell_row rfl _ _ g1 _ _ _ _ rfl B3 Tryz.underlying33 rfl (by rw [HSZ.out];exact size_b32)) rfl ⟨by rw [HD.out],below_row (grow_trans b1 b2) g3 hg1⟩

theorem refLeaf_any (K A:Lq) (w:World) (hk:K.length=32) (ha:A.length=32) (bk:Bytes K) (ba:Bytes A):Kc 98 #[.agg (B K),.agg (B A)] w (DigPost (1::(K++A)) w):=by
  obtain ⟨D,hD⟩:∃D,D=dig (1::(K++A)):=⟨_,rfl⟩;have HD:=hidden hD;have HSZ:Hid ((B D).size=32):=by rw [B_size,hD];exact dig_length _
  have HKZ:Hid ((B K).size=32):=by rw [B_size];exact hk
  have HAZ:Hid ((B A).size=32):=by rw [B_size];exact ha
  have HT:Hid (∀w',Kc 138 #[.agg (B K),.agg (B A)] w' (JoinPost (1::(K++A)) w')):=fun w'=>refLeafText_any K A w' hk ha bk ba
  have HS:Hid (∀u w',Reads w' u (1::(K++A))→Kc 137 #[u] w' fun e w''=>e=.returned (.agg (B D))∧Below w'.heap.size w' w''):=by
    intro u w' hu;rw [hD];exact refSum_any u _ w' hu (by simp [hk,ha])
  clear hD hk ha bk ba;go_enter Tryz.func98,Tryz.ntmps98
  go_wp2_with (first
    |(refine wpList_al _ rfl _ rfl _ zero_b32 ?_;intro w3 g3 hg3 hl3 B3 b3;have B1':=(B1.grow b2).grow b3;have B2':=B2.grow b3)
    |(have hx:=hl1;clear hx;refine wpList_bx _ rfl _ _ rfl _ rfl ?_;intro w2 g2 hg2 hl2 B2 b2) | (refine wpList_bx _ rfl _ _ rfl _ rfl ?_;intro w1 g1 hg1 hl1 B1 b1)
    |(refine wpList_ld _ rfl _ _ rfl g1 _ rfl B1' _ _ Tryz.underlying33 (by rw [HKZ.out];exact size_b32) ?_)
    |(refine wpList_ld _ rfl _ _ rfl g2 _ rfl B2' _ _ Tryz.underlying33 (by rw [HAZ.out];exact size_b32) ?_)
    |(go_at_call 138;refine (HT.out w3).mono ?_;rintro e w4 ⟨u,sp,rfl,hO,b4⟩;have hR:=hO.reads;clear hO)
    |(go_at_call 137;refine (HS.out u w4 hR).mono ?_;rintro e w5 ⟨rfl,b5⟩;have B5:=(B3.grow b4).grow b5)
    |(refine wpList_sto _ rfl _ _ _ rfl g3 _ _ rfl rfl B5 (by rw [HSZ.out];exact size_b32) (by rw [HSZ.out,B_size];simp) (B_one _) ?_;intro w6 B6 g6))
  have c2:=b1.trans (b2.mono b1.size);have c5:=grow_trans (grow_trans (grow_trans c2 b3) b4) b5;exact bodyPost_ret (v:=.agg (B D)) (results_cell_row rfl _ _ g3 _ _ _ _ rfl B6 Tryz.underlying33 rfl (by rw [HSZ.out];exact size_b32)) rfl ⟨by rw [HD.out],below_row c5 g6 (Nat.le_trans c2.size hg3)⟩

theorem refInner_any (K A:Lq) (w:World) (hk:K.length=32) (ha:A.length=32) (bk:Bytes K) (ba:Bytes A):Kc 100 #[.agg (B K),.agg (B A)] w (DigPost (2::(K++A)) w):=by
  obtain ⟨D,hD⟩:∃D,D=dig (2::(K++A)):=⟨_,rfl⟩;have HD:=hidden hD;have HSZ:Hid ((B D).size=32):=by rw [B_size,hD];exact dig_length _
  have HKZ:Hid ((B K).size=32):=by rw [B_size];exact hk
  have HAZ:Hid ((B A).size=32):=by rw [B_size];exact ha
  have HT:Hid (∀w',Kc 139 #[.agg (B K),.agg (B A)] w' (JoinPost (2::(K++A)) w')):=fun w'=>refInnerText_any K A w' hk ha bk ba
  have HS:Hid (∀u w',Reads w' u (2::(K++A))→Kc 137 #[u] w' fun e w''=>e=.returned (.agg (B D))∧Below w'.heap.size w' w''):=by
    intro u w' hu;rw [hD];exact refSum_any u _ w' hu (by simp [hk,ha])
  clear hD hk ha bk ba;go_enter Tryz.func100,Tryz.ntmps100
  go_wp2_with (first
    |(refine wpList_al _ rfl _ rfl _ zero_b32 ?_;intro w3 g3 hg3 hl3 B3 b3;have B1':=(B1.grow b2).grow b3;have B2':=B2.grow b3)
    |(have hx:=hl1;clear hx;refine wpList_bx _ rfl _ _ rfl _ rfl ?_;intro w2 g2 hg2 hl2 B2 b2) | (refine wpList_bx _ rfl _ _ rfl _ rfl ?_;intro w1 g1 hg1 hl1 B1 b1)
    |(refine wpList_ld _ rfl _ _ rfl g1 _ rfl B1' _ _ Tryz.underlying33 (by rw [HKZ.out];exact size_b32) ?_)
    |(refine wpList_ld _ rfl _ _ rfl g2 _ rfl B2' _ _ Tryz.underlying33 (by rw [HAZ.out];exact size_b32) ?_)
    |(go_at_call 139;refine (HT.out w3).mono ?_;rintro e w4 ⟨u,sp,rfl,hO,b4⟩;have hR:=hO.reads;clear hO)
    |(go_at_call 137;refine (HS.out u w4 hR).mono ?_;rintro e w5 ⟨rfl,b5⟩;have B5:=(B3.grow b4).grow b5)
    |(refine wpList_sto _ rfl _ _ _ rfl g3 _ _ rfl rfl B5 (by rw [HSZ.out];exact size_b32) (by rw [HSZ.out,B_size];simp) (B_one _) ?_;intro w6 B6 g6))
  have c2:=b1.trans (b2.mono b1.size);have c5:=grow_trans (grow_trans (grow_trans c2 b3) b4) b5;exact bodyPost_ret (v:=.agg (B D)) (results_cell_row rfl _ _ g3 _ _ _ _ rfl B6 Tryz.underlying33 rfl (by rw [HSZ.out];exact size_b32)) rfl ⟨by rw [HD.out],below_row c5 g6 (Nat.le_trans c2.size hg3)⟩

theorem entry_short (K:Lq) (v:Value) (zs:Lq) (w:World) (hk:K.length=32) (bk:Bytes K) (h:Reads w v zs) (hL:Laid w) (hl:zs.length≤1024):Kc 70 #[.agg (B K),v] w fun e w'=>e=.returned (.tuple #[.agg (B (dig (1::(K++dig (3::zs))))),.int .i64 0])∧Kb w w':=by
  obtain ⟨D,hD⟩:∃D,D=dig (1::(K++dig (3::zs))):=⟨_,rfl⟩;obtain ⟨E,hE⟩:∃E,E=dig (3::zs):=⟨_,rfl⟩;have HD:=hidden hD;have HSZ:Hid ((B D).size=32):=by rw [B_size,hD];exact dig_length _
  have HKZ:Hid ((B K).size=32):=by rw [B_size];exact hk
  have HV:Hid (Kr w 117 #[v] (.agg (B E))):=by
    intro w' hw';rw [hE];exact value_any v zs w' (h.grow hw') (hL.grow hw') (by omega)
  have HF:Hid (Kr w 116 #[.agg (B K),.agg (B E)] (.agg (B D))):=by
    intro w' hw';rw [hD,← hE];exact leaf_any K E w' hk (by rw [hE];exact dig_length _) bk (by rw [hE];exact dig_bytes _) (hL.grow hw')
  rw [← hD];obtain ⟨va,vc,rfl,_,_,_,_⟩:=h;have hgt: ¬(1024:Int)<(zs.length:Int):=by omega
  generalize zs.length=n at *;clear hD hE hk bk;go_enter Tryz.func70,Tryz.ntmps70
  go_wp2_with (first
    |(refine wpList_bx _ rfl _ _ rfl _ rfl ?_;intro w1 g1 hg1 hl1 B1 b1)
    |(refine wpList_al _ rfl _ rfl _ zero_hash ?_;intro w2 g2 hg2 hl2 B2 b2))
  have c2:=b1.trans (b2.mono b1.size);have HB1:=hidden (B1.grow b2);have HB2:=hidden B2;have hd2:Kb w2 w2.drew:=(Below.refl _ _).drew;have hiK:(Tryz.prog.info? 34).map (·.size)=some (B K).toList.length:=by rw [Array.length_toList,HKZ.out];kernel_rfl
  clear B1 B2;refine wp_region_held_drew (S:=fun w'=>w'.rangeAt g1 0 (B K).toList) (by kernel_rfl) ((HB1.out.grow hd2).range) (fun hHeld=>?_);refine tkg 0 (.agg (B K)) rfl (yieldsIf_load_mid rfl 34 (.tmp 2) rfl g1 0 rfl (B K).toList _ (fun w hS=>hS) Tryz.underlying34 rfl hiK) hHeld ?_;simp only [Act.put,zq1,zq2,zq4,zq5,zq6];refine tkp 1 (.slice va n vc) hHeld ?_;simp only [Act.put,zq1,zq2,zq3,zq4,zq5,zq6];refine wpAnyH_ready (rs:=[2]) (by kernel_rfl) (by simp) ?_;refine AllReadyH.cons rfl (fun K1 hK=>?_) AllReadyH.nil;go_simp;refine (HV.out _ (grow_trans c2 hd2)).mono ?_;rintro e w3 ⟨rfl,b3⟩;have hd3:=grow_trans hd2 b3;refine hK.out _ _ ((HB1.out.grow hd3).range) (fun hHeld=>?_);clear hK K1;refine wpAnyH_ready (rs:=[3]) (by kernel_rfl) (by simp) ?_;refine AllReadyH.cons rfl (fun K1 hK=>?_) AllReadyH.nil;go_simp;refine (HF.out _ (grow_trans c2 hd3)).mono ?_;rintro e w4 ⟨rfl,b4⟩;have hd4:=grow_trans hd3 b4;refine hK.out _ _ ((HB1.out.grow hd4).range) (fun hHeld=>?_);clear hK K1;have B4:=HB2.out.grow hd4;refine wpAnyH_ready (rs:=[4]) (by kernel_rfl) (by simp) ?_;refine AllReadyH.cons rfl (fun K1 hK=>?_) AllReadyH.nil;refine step_sto _ rfl _ _ _ rfl g2 _ (B D) rfl rfl B4 (by rw [HSZ.out];exact size_hash) (by rw [HSZ.out,B_size];simp) (B_one _) ?_;intro w5 B5 g5;refine hK.out _ _ (((HB1.out.grow hd4).kept g5 (by omega)).range) (fun hHeld=>?_);clear hK K1;refine tkp 5 (.int .i64 0) hHeld ?_;simp only [Act.put,zq1,zq2,zq3,zq4,zq5,zq6];refine wpAnyH_done (by kernel_rfl) ?_ _
  go_wp2_with fail
  exact bodyPost_ret (v:=.tuple #[.agg (B D),.int .i64 0]) (results_row_tmp rfl _ _ g2 _ _ _ _ rfl rfl B5 Tryz.underlying39 (by rw [HSZ.out];exact size_hash)) rfl ⟨rfl,below_row (grow_trans c2 hd4) g5 (Nat.le_trans b1.size hg2)⟩

end Go.Proofs.YtabiglnmfdpcfaaGreatDoor

namespace Go.Proofs.YtabiglnmfdpcfaaGreatDoor
variable {base c g gs n room:Nat}
variable {cs:Lz}
variable {fr pend:List Nat}
variable {mk:Bool}
variable {sp zs:Lq}
variable {v vf vp:Value}
variable {w w':World}
set_option maxHeartbeats 4000000
set_option maxRecDepth 20000
open Go.RowKit

structure Vw (w:World) (v:Value) (mk:Bool) (ct:Int→Nat) (ca:Int→Ce):Prop where
  made:∀w',Kb w w'→Kc 33 #[v] w' fun e w''=>e=.returned (.bool mk)∧w''=w'
  atv:∀w' h,Kb w w'→Kc 37 #[v,.int .i64 h] w' fun e w''=>e=.returned (.agg (cz (ca h)).toArray)∧Below w'.heap.size w' w''
  count:∀w' h,Kb w w'→Kc 55 #[v,.int .i64 h] w' fun e w''=>e=.returned (.int .i64 (ct h:Int))∧w''=w'
  ok:∀h,CeOk (ca h)
  val:∀h,Reads w (ca h).val (ca h).bs
  len:∀h,(ca h).bs.length≤1024
  le:∀h,(ca h).ab≤ct h∧ct h≤1073741824

theorem Vw.grow {ct:Int→Nat} {ca:Int→Ce} (V:Vw w v mk ct ca) (hb:Kb w w'):Vw w' v mk ct ca:=
  ⟨fun w'' h=>V.made w'' (grow_trans hb h),fun w'' x h=>V.atv w'' x (grow_trans hb h),fun w'' x h=>V.count w'' x (grow_trans hb h),V.ok,fun h=>(V.val h).grow hb,V.len,V.le⟩

theorem countS_ok (s:Stm w g gs vp vf room cs fr) (h:Int):Kc 55 #[.pointer (some ⟨g,0,none⟩),.int .i64 h] w fun e w'=>e=.returned (.int .i64 (cot cs h:Int))∧w'=w:=by
  have c0:=s.c0;have c1:=s.c1;have HC:=hidden (count_any s h);generalize cot cs h=q at HC ⊢;clear s;go_enter Tryz.func55,Tryz.ntmps55
  go_wp2_with (first
    |(go_at_call 33;refine (madeS_ok g _ c0).mono ?_;rintro e w' ⟨rfl,hx⟩;rw [hx];clear hx w')
    |(go_at_call 102;refine HC.out.mono ?_;rintro e w' ⟨rfl,hx⟩;rw [hx];clear hx w'))
  go_ret;exact ⟨rfl,rfl⟩

theorem Wf.bsLen (w:Wf cs pend) (h:Int):(cat cs h).bs.length≤1024:=by
  by_cases hc:cot cs h=0
  · rw [w.cat0 hc]
    decide
  · obtain ⟨i,h1,h2,h3,h4⟩:=cot_in (cs:=cs) (h:=h) (by omega)
    rw [h4];rcases w.tr i h2 with hl | hn
    · exact hl.len
    · rw [hn.bs]
      decide

theorem vw_ok (s:Stm w g gs vp vf room cs fr) (hw:Wf cs pend):Vw w (.pointer (some ⟨g,0,none⟩)) true (cot cs) (cat cs):=by
  refine ⟨fun w' hb=>madeS_ok g w' (s.grow hb).c0,fun w' h hb=>atS_ok (s.grow hb) hw h,fun w' h hb=>countS_ok (s.grow hb) h,hw.catOk,fun h=>?_,hw.bsLen,fun h=>?_⟩
  · unfold cat
    split
    · obtain ⟨sp,ho⟩:=s.vals (h-1).toNat
      exact ho.reads
    · exact Reads.nil _
  · unfold cat cot
    split
    · have h1:=hw.le (h-1).toNat
      have h2:=s.sl.inv.most (h-1).toNat;rw [cnt_pl] at h2;omega
    · exact ⟨by decide,by decide⟩

theorem kind_any {ct:Int→Nat} {ca:Int→Ce} (V:Vw w v mk ct ca) (h:Int):Kc 108 #[v,.int .i64 h] w fun e w'=>e=.returned (.int .u8 (ca h).kind)∧Kb w w':=by
  have HA:=hidden (V.atv w h (Below.refl _ _));have hf:=fld_kind (ca h) (V.ok h);obtain ⟨c,hc⟩:∃c,c=ca h:=⟨_,rfl⟩;rw [← hc] at HA hf;rw [← hc];clear hc V;go_enter Tryz.func108,Tryz.ntmps108
  go_wp2_with (go_at_call 37;refine HA.out.mono ?_;rintro e w1 ⟨rfl,b1⟩)
  go_ret;exact ⟨rfl,b1⟩

theorem size_any {ct:Int→Nat} {ca:Int→Ce} (V:Vw w v mk ct ca) (h:Int):Kc 18 #[v,.int .i64 h] w fun e w'=>e=.returned (.int .i64 ((ca h).sz:Int))∧Kb w w':=by
  have HA:=hidden (V.atv w h (Below.refl _ _));have hf:=fld_sz (ca h) (V.ok h);obtain ⟨c,hc⟩:∃c,c=ca h:=⟨_,rfl⟩;rw [← hc] at HA hf;rw [← hc];clear hc V;go_enter Tryz.func18,Tryz.ntmps18
  go_wp2_with (go_at_call 37;refine HA.out.mono ?_;rintro e w1 ⟨rfl,b1⟩)
  go_ret;exact ⟨rfl,b1⟩

theorem held_any {ct:Int→Nat} {ca:Int→Ce} (V:Vw w v mk ct ca) (h:Int):Kc 22 #[v,.int .i64 h] w fun e w'=>e=.returned (.int .i64 ((ct h-(ca h).ab:Nat):Int))∧Kb w w':=by
  have HA:=hidden (V.atv w h (Below.refl _ _));have HC:=hidden (V.count w h (Below.refl _ _));have hf:=fld_ab (ca h) (V.ok h);obtain ⟨h1,h2⟩:=V.le h;obtain ⟨q,hq⟩:∃q,q=ct h:=⟨_,rfl⟩;rw [← hq] at HC h1 h2;rw [← hq];obtain ⟨c,hc⟩:∃c,c=ca h:=⟨_,rfl⟩;rw [← hc] at HA hf h1;rw [← hc];have HW:Hid (wrap64 ((q:Int)-(c.ab:Int))=((q-c.ab:Nat):Int)):=by
    show _=_;rw [Go.IntWalk.wrap64_in _ (by omega)];omega
  clear hc hq V h1 h2;go_enter Tryz.func22,Tryz.ntmps22
  go_wp2_with (first
    |(go_at_call 55;refine HC.out.mono ?_;rintro e w' ⟨rfl,hx⟩;rw [hx];clear hx w')
    |(go_at_call 37;refine HA.out.mono ?_;rintro e w1 ⟨rfl,b1⟩))
  go_ret;exact ⟨by rw [← HW.out];rfl,b1⟩

theorem has_any {ct:Int→Nat} {ca:Int→Ce} (V:Vw w v mk ct ca) (h:Int):Kc 51 #[v,.int .i64 h] w fun e w'=>e=.returned (.bool (decide (0<ct h)))∧Kb w w':=by
  have HC:=hidden (V.count w h (Below.refl _ _));obtain ⟨q,hq⟩:∃q,q=ct h:=⟨_,rfl⟩;rw [← hq] at HC;rw [← hq];clear hq V;have e0:decide ((0:Int)<(q:Int))=decide (0<q):=by simp
  go_enter Tryz.func51,Tryz.ntmps51
  go_wp2_with (go_at_call 55;refine HC.out.mono ?_;rintro e w' ⟨rfl,hx⟩;rw [hx];clear hx w')
  go_ret;exact ⟨rfl,Below.refl _ _⟩

theorem key_any {ct:Int→Nat} {ca:Int→Ce} (V:Vw w v mk ct ca) (h:Int):Kc 109 #[v,.int .i64 h] w fun e w'=>e=.returned (.agg (B (ca h).key))∧Kb w w':=by
  have HA:Hid (Kr w 37 #[v,.int .i64 h] (.agg (cz (ca h)).toArray)):=fun w' hb=>V.atv w' h hb
  have hf:=fld_key (ca h) (V.ok h);obtain ⟨c,hc⟩:∃c,c=ca h:=⟨_,rfl⟩;have HSZ:Hid ((B (ca h).key).size=32):=by rw [B_size];exact (V.ok h).hk.1
  rw [← hc] at HA hf HSZ;rw [← hc];clear hc V;go_enter Tryz.func109,Tryz.ntmps109
  go_wp2_with (first
    |((with_reducible refine at_ald 4 ?_);refine wpList_al _ rfl _ rfl _ zero_path ?_;intro w1 b4 hg4 hl4 B4 b1;have HB4:=hidden B4;have Hg4:=hidden hg4;clear B4 hg4 hl4)
    |(go_at_call 37;refine (HA.out _ b1).mono ?_;rintro e w2 ⟨rfl,b2⟩;have B4':=hidden (HB4.out.grow b2);have Hb2:=hidden b2;clear b2)
    |((with_reducible refine at_st 4 ?_);refine wpList_sto _ rfl _ _ _ rfl b4 _ (B c.key) rfl rfl B4'.out (by rw [HSZ.out];exact size_path) (by rw [HSZ.out,B_size];simp) (B_one _) ?_;intro w3 B5 g3))
  exact bodyPost_ret (v:=.agg (B c.key)) (results_cell_row rfl _ _ b4 _ _ _ _ rfl B5 Tryz.underlying34 rfl (by rw [HSZ.out];exact size_path)) rfl ⟨rfl,below_row (grow_trans b1 Hb2.out) g3 Hg4.out⟩

theorem run_nil_bytes (a:Option Addr) (n c:Nat) (w:World):(binOp .eql 35 (.slice a n c) (.slice none 0 0)).run Tryz.prog w=.ok (.bool a.isNone) w:=by
  obtain ⟨e,he⟩:∃e,Tryz.prog.underlying 35=some (.slice e):=⟨_,Tryz.underlying35⟩;have h:∀d:Nat,(Op.equalIn (d+1) 35 (.slice a n c) (.slice none 0 0)).run Tryz.prog w=.ok a.isNone w:=fun d=>by
    cases a <;> simp [Op.equalIn,run_underlying he]
  simp only [binOp];simp [Op.equal,Op.maxDepth,h 9999]

theorem clone_any (v:Value) (zs:Lq) (w:World) (hr:Reads w v zs) (hl:zs.length≤140737488355328):Kc 57 #[v] w fun e w'=>∃v' sp,e=.returned v'∧Own w.heap.size w' v' zs sp∧Kb w w':=by
  have HR:=hidden hr;have HL:=hidden hl;obtain ⟨a,cap,rfl,hc,hz,_,_⟩:=hr;cases a with
  | none=>
    have h0:=hz rfl;subst h0;have hn:zs=[]:=List.eq_nil_of_length_eq_zero (by omega);subst hn;have hq:=run_nil_bytes none 0 0 w;clear hc hz hl HR HL;go_enter Tryz.func57,Tryz.ntmps57
    go_wp2
    go_ret;exact ⟨_,[],rfl,Own.nil _ _,Below.refl _ _⟩
  | some x=>
    have HO:=hidden (Own.empty w.heap.size w (Nat.le_refl _));have HR2:=hidden (HR.out.grow (grow_alloc w (.cells #[] 5)));have hq:=run_nil_bytes (some x) zs.length cap w;clear hz hl hc HR;go_enter Tryz.func57,Tryz.ntmps57
    go_wp2_with (at_builtin;refine wpList_app _ rfl _ _ rfl w.heap.size _ _ [] [] zs HO.out HR2.out rfl rfl (by simpa using HL.out) (by simp) ?_;intro v' w' sp' o' g' _ _)
    go_ret;exact ⟨_,sp',rfl,o',below_row (grow_alloc w _) (by simpa [Value.ownBlock] using g') (Nat.le_refl _)⟩

theorem valueS_any {ct:Int→Nat} {ca:Int→Ce} (V:Vw w v mk ct ca) (h:Int):Kc 128 #[v,.int .i64 h] w fun e w'=>∃v' sp,e=.returned v'∧Own w.heap.size w' v' (ca h).bs sp∧Kb w w':=by
  have HA:=hidden (V.atv w h (Below.refl _ _));have hf:=fld_val (ca h) (V.ok h);have HR:=hidden (V.val h);have HL:=hidden (V.len h);obtain ⟨c,hc⟩:∃c,c=ca h:=⟨_,rfl⟩;rw [← hc] at HA hf HR HL;rw [← hc];clear hc V;go_enter Tryz.func128,Tryz.ntmps128
  go_wp2_with (first
    |(go_at_call 37;refine HA.out.mono ?_;rintro e w1 ⟨rfl,b1⟩)
    |(go_at_call 57;refine (clone_any _ c.bs _ (HR.out.grow b1) (by have:=HL.out;omega)).mono ?_;rintro e w2 ⟨v',sp,rfl,o2,b2⟩))
  go_ret;exact ⟨_,sp,rfl,o2.mono b1.size,grow_trans b1 b2⟩

theorem sides_any {ct:Int→Nat} {ca:Int→Ce} (V:Vw w v mk ct ca) (h:Int):Kc 130 #[v,.int .i64 h] w fun e w'=>e=.returned (.tuple #[.int .i64 ((ca h).l:Int),.int .i64 ((ca h).r:Int)])∧Kb w w':=by
  have HA:=hidden (V.atv w h (Below.refl _ _));have HO:=hidden (V.ok h);obtain ⟨c,hc⟩:∃c,c=ca h:=⟨_,rfl⟩;rw [← hc] at HA HO;rw [← hc];clear hc V;go_enter Tryz.func130,Tryz.ntmps130
  go_wp2_with (first
    |(go_at_call 37;refine HA.out.mono ?_;rintro e w1 ⟨rfl,b1⟩)
    |((with_reducible refine at_ald 6 ?_);refine wpList_al _ rfl _ rfl _ zero_thC ?_;intro w2 b6 hg6 hl6 B6 b2;have HB6:=hidden B6;have Hg6:=hidden hg6;have Hb2:=hidden b2;clear B6 hg6 hl6 b2)
    |((with_reducible refine at_st 6 ?_);refine wpList_sto _ rfl _ _ _ rfl b6 _ (cz c).toArray rfl rfl HB6.out (xszC (cz c) (cz_th HO.out)) (xzsC (cz c) (cz_th HO.out)) (all_oneCell_toArray (cz_one HO.out)) ?_;intro w3 B7 g3;have c7:=B7.cell 69;have c8:=B7.cell 70;simp only [List.getElem?_toArray] at c7 c8;rw [(cz_at c HO.out).2.2.2.2.2.1] at c7;rw [(cz_at c HO.out).2.2.2.2.2.2] at c8;have Hg3:=hidden g3;clear B7 g3))
  go_quiet (fail)
  go_wp2
  go_ret2;exact ⟨rfl,below_drewN (below_row (grow_trans b1 Hb2.out) Hg3.out (by have:=Hg6.out;have:=b1.size;omega)) _⟩

def vDp (mk:Bool) (c:Ce):Int:=if mk then (if c.kind=2 then (c.dp:Int) else -1) else 0

theorem depth_any {ct:Int→Nat} {ca:Int→Ce} (V:Vw w v mk ct ca) (h:Int):Kc 52 #[v,.int .i64 h] w fun e w'=>e=.returned (.int .i64 (vDp mk (ca h)))∧Kb w w':=by
  have HM:=hidden (V.made w (Below.refl _ _));cases mk with
  | false=>
    clear V;go_enter Tryz.func52,Tryz.ntmps52
    go_wp2_with (go_at_call 33;refine HM.out.mono ?_;rintro e w' ⟨rfl,hx⟩;rw [hx];clear hx w')
    go_ret;exact ⟨rfl,Below.refl _ _⟩
  | true=>
    have HA:=hidden (V.atv w h (Below.refl _ _));have HO:=hidden (V.ok h);obtain ⟨c,hc⟩:∃c,c=ca h:=⟨_,rfl⟩;rw [← hc] at HA HO;rw [← hc];clear hc V
    by_cases hk:c.kind=2
    · have HV:Hid (vDp true c=(c.dp:Int)):=by simp [vDp,hk,Hid]
      rw [HV.out];have HK:=hidden hk;clear hk HV;go_enter Tryz.func52,Tryz.ntmps52
      go_wp2_with (first
        |(go_at_call 33;refine HM.out.mono ?_;rintro e w' ⟨rfl,hx⟩;rw [hx];clear hx w')
        |(go_at_call 37;refine HA.out.mono ?_;rintro e w1 ⟨rfl,b1⟩)
        |((with_reducible refine at_ald 5 ?_);refine wpList_al _ rfl _ rfl _ zero_thC ?_;intro w2 b6 hg6 hl6 B6 b2;have HB6:=hidden B6;have Hg6:=hidden hg6;have Hb2:=hidden b2;clear B6 hg6 hl6 b2)
        |((with_reducible refine at_st 5 ?_);refine wpList_sto _ rfl _ _ _ rfl b6 _ (cz c).toArray rfl rfl HB6.out (xszC (cz c) (cz_th HO.out)) (xzsC (cz c) (cz_th HO.out)) (all_oneCell_toArray (cz_one HO.out)) ?_;intro w3 B7 g3;have c7:=B7.cell 32;have c8:=B7.cell 68;simp only [List.getElem?_toArray] at c7 c8;rw [(cz_at c HO.out).1,HK.out] at c7;rw [(cz_at c HO.out).2.2.2.2.1] at c8;have Hg3:=hidden g3;clear B7 g3))
      go_ret;exact ⟨rfl,below_row (grow_trans b1 Hb2.out) Hg3.out (by have:=Hg6.out;have:=b1.size;omega)⟩
    · have HV:Hid (vDp true c= -1):=by simp [vDp,hk,Hid]
      rw [HV.out];have hk2:(c.kind == 2)=false:=by simp [hk]
      have HK:=hidden hk;clear hk HV;obtain ⟨k,hkk⟩:∃k,k=c.kind:=⟨_,rfl⟩;have HKK:=hidden hkk;rw [← hkk] at hk2;clear hkk;go_enter Tryz.func52,Tryz.ntmps52
      go_wp2_with (first
        |(go_at_call 33;refine HM.out.mono ?_;rintro e w' ⟨rfl,hx⟩;rw [hx];clear hx w')
        |(go_at_call 37;refine HA.out.mono ?_;rintro e w1 ⟨rfl,b1⟩)
        |((with_reducible refine at_ald 5 ?_);refine wpList_al _ rfl _ rfl _ zero_thC ?_;intro w2 b6 hg6 hl6 B6 b2;have HB6:=hidden B6;have Hg6:=hidden hg6;have Hb2:=hidden b2;clear B6 hg6 hl6 b2)
        |((with_reducible refine at_st 5 ?_);refine wpList_sto _ rfl _ _ _ rfl b6 _ (cz c).toArray rfl rfl HB6.out (xszC (cz c) (cz_th HO.out)) (xzsC (cz c) (cz_th HO.out)) (all_oneCell_toArray (cz_one HO.out)) ?_;intro w3 B7 g3;have c7:=B7.cell 32;simp only [List.getElem?_toArray] at c7;rw [(cz_at c HO.out).1,← HKK.out] at c7;have Hg3:=hidden g3;clear B7 g3))
      go_ret;exact ⟨rfl,below_row (grow_trans b1 Hb2.out) Hg3.out (by have:=Hg6.out;have:=b1.size;omega)⟩

def vRt (mk:Bool) (q:Nat) (c:Ce) (h:Int):Int:=if mk then (if h=0 then 0 else if q=0 then 7 else if 0<vDp mk c then 2 else 0) else 1

theorem root_any {ct:Int→Nat} {ca:Int→Ce} (V:Vw w v mk ct ca) (h:Int):Kc 19 #[v,.int .i64 h] w fun e w'=>e=.returned (.int .i64 (vRt mk (ct h) (ca h) h))∧Kb w w':=by
  have HM:=hidden (V.made w (Below.refl _ _));cases mk with
  | false=>
    clear V;go_enter Tryz.func19,Tryz.ntmps19
    go_wp2_with (go_at_call 33;refine HM.out.mono ?_;rintro e w' ⟨rfl,hx⟩;rw [hx];clear hx w')
    go_ret;exact ⟨rfl,Below.refl _ _⟩
  | true=>
    by_cases h0:h=0
    · subst h0
      have HV:Hid (vRt true (ct 0) (ca 0) 0=0):=rfl;rw [HV.out];clear V HV;go_enter Tryz.func19,Tryz.ntmps19
      go_wp2_with (go_at_call 33;refine HM.out.mono ?_;rintro e w' ⟨rfl,hx⟩;rw [hx];clear hx w')
      go_ret;exact ⟨rfl,Below.refl _ _⟩
    · have HH:=hidden (has_any V h)
      have HD:Hid (Kr w 52 #[v,.int .i64 h] (.int .i64 (vDp true (ca h)))):=fun w' hb=>depth_any (V.grow hb) h
      have hb0:(h == 0)=false:=by simp [h0]
      by_cases hq:0<ct h
      · have e1:decide (0<ct h)=true:=by simp [hq]
        rw [e1] at HH
        by_cases hd:0<vDp true (ca h)
        · have HV:Hid (vRt true (ct h) (ca h) h=2):=by simp [vRt,h0,hd,Hid];omega
          rw [HV.out];obtain ⟨q,hqq⟩:∃q,q=vDp true (ca h):=⟨_,rfl⟩;rw [← hqq] at HD hd;clear V HV h0 hq e1 hqq;go_enter Tryz.func19,Tryz.ntmps19
          go_wp2_with (first
            |(go_at_call 33;refine HM.out.mono ?_;rintro e w' ⟨rfl,hx⟩;rw [hx];clear hx w')
            |(go_at_call 51;refine HH.out.mono ?_;rintro e w1 ⟨rfl,b1⟩)
            |(go_at_call 52;refine (HD.out _ b1).mono ?_;rintro e w2 ⟨rfl,b2⟩))
          go_ret;exact ⟨rfl,grow_trans b1 b2⟩
        · have HV:Hid (vRt true (ct h) (ca h) h=0):=by simp [vRt,h0,hd,Hid];omega
          rw [HV.out];obtain ⟨q,hqq⟩:∃q,q=vDp true (ca h):=⟨_,rfl⟩;rw [← hqq] at HD hd;clear V HV h0 hq e1 hqq;go_enter Tryz.func19,Tryz.ntmps19
          go_wp2_with (first
            |(go_at_call 33;refine HM.out.mono ?_;rintro e w' ⟨rfl,hx⟩;rw [hx];clear hx w')
            |(go_at_call 51;refine HH.out.mono ?_;rintro e w1 ⟨rfl,b1⟩)
            |(go_at_call 52;refine (HD.out _ b1).mono ?_;rintro e w2 ⟨rfl,b2⟩))
          go_ret;exact ⟨rfl,grow_trans b1 b2⟩
      · have e1:decide (0<ct h)=false:=by simp [hq]
        rw [e1] at HH;have HV:Hid (vRt true (ct h) (ca h) h=7):=by simp [vRt,h0,Hid];omega
        rw [HV.out];clear V HV h0 hq e1 HD;go_enter Tryz.func19,Tryz.ntmps19
        go_wp2_with (first
          |(go_at_call 33;refine HM.out.mono ?_;rintro e w' ⟨rfl,hx⟩;rw [hx];clear hx w')
          |(go_at_call 51;refine HH.out.mono ?_;rintro e w1 ⟨rfl,b1⟩))
        go_ret;exact ⟨rfl,b1⟩

def vDg (mk:Bool) (ca:Int→Ce) (h:Int):Lq:=if mk=true∧h=0 then emD else (ca h).dig
theorem vDg_len {ct:Int→Nat} {ca:Int→Ce} (V:Vw w v mk ct ca) (h:Int):(vDg mk ca h).length=32∧Bytes (vDg mk ca h):=by
  unfold vDg;split
  · exact ⟨dig_length _,dig_bytes _⟩
  · exact ⟨(V.ok h).ld,(V.ok h).bd⟩

theorem sdig_any {ct:Int→Nat} {ca:Int→Ce} (V:Vw w v mk ct ca) (h:Int) (hL:Laid w):Kc 11 #[v,.int .i64 h] w fun e w'=>e=.returned (.agg (B (vDg mk ca h)))∧Kb w w':=by
  have HM:Hid (∀w',Kb w w'→Kc 33 #[v] w' fun e w''=>e=.returned (.bool mk)∧w''=w'):=V.made
  by_cases hc:mk=true∧h=0
  · obtain ⟨rfl,rfl⟩:=hc
    have HE:Hid (∀w',Kb w w'→Kc 36 #[] w' (DigPost [0] w')):=fun w' hb=>empty_any w' (hL.grow hb)
    have HD:Hid (vDg true ca 0=dig [0]):=rfl;have HSZ:Hid ((B (dig [0])).size=32):=by rw [B_size];exact dig_length _
    rw [HD.out];generalize hDD:dig [0]=D at HSZ ⊢;have HE':Hid (Kr w 36 #[] (.agg (B D))):=by rw [← hDD];exact HE
    clear HD V hL hDD HE;go_enter Tryz.func11,Tryz.ntmps11
    go_wp2_with (first
      |((with_reducible refine at_ald 4 ?_);refine wpList_al _ rfl _ rfl _ zero_hash ?_;intro w1 b4 hg4 hl4 B4 b1;have HB4:=hidden B4;have Hg4:=hidden hg4;clear B4 hg4 hl4)
      |(go_at_call 33;refine (HM.out _ b1).mono ?_;rintro e w' ⟨rfl,hx⟩;rw [hx];clear hx w')
      |(go_at_call 36;refine (HE'.out _ b1).mono ?_;rintro e w2 ⟨rfl,b2⟩;have B4':=hidden (HB4.out.grow b2);have Hb2:=hidden b2;clear b2)
      |((with_reducible refine at_st 4 ?_);refine wpList_sto _ rfl _ _ _ rfl b4 _ (B D) rfl rfl B4'.out (by rw [HSZ.out];exact size_hash) (by rw [HSZ.out,B_size];simp) (B_one _) ?_;intro w3 B5 g3))
    exact bodyPost_ret (v:=.agg (B D)) (results_cell_row rfl _ _ b4 _ _ _ _ rfl B5 Tryz.underlying39 rfl (by rw [HSZ.out];exact size_hash)) rfl ⟨rfl,below_row (grow_trans b1 Hb2.out) g3 Hg4.out⟩
  · have HA:Hid (Kr w 37 #[v,.int .i64 h] (.agg (cz (ca h)).toArray)):=fun w' hb=>V.atv w' h hb
    have hf:=fld_dig (ca h) (V.ok h);have HD:Hid (vDg mk ca h=(ca h).dig):=by simp [vDg,hc,Hid]
    have HSZ:Hid ((B (ca h).dig).size=32):=by rw [B_size];exact (V.ok h).ld
    rw [HD.out];obtain ⟨c,hcc⟩:∃c,c=ca h:=⟨_,rfl⟩;rw [← hcc] at HA hf HSZ;rw [← hcc];have hcase:(mk=false)∨(mk=true∧(h == 0)=false):=by
      cases mk with
      | false=>exact .inl rfl
      | true=>exact .inr ⟨rfl,by simpa using hc⟩
    clear HD V hL hcc hc;rcases hcase with rfl | ⟨rfl,hb0⟩
    all_goals
      go_enter Tryz.func11,Tryz.ntmps11
      go_wp2_with (first
        |((with_reducible refine at_ald 4 ?_);refine wpList_al _ rfl _ rfl _ zero_hash ?_;intro w1 b4 hg4 hl4 B4 b1;have HB4:=hidden B4;have Hg4:=hidden hg4;clear B4 hg4 hl4)
        |(go_at_call 33;refine (HM.out _ b1).mono ?_;rintro e w' ⟨rfl,hx⟩;rw [hx];clear hx w')
        |(go_at_call 37;refine (HA.out _ b1).mono ?_;rintro e w2 ⟨rfl,b2⟩;have B4':=hidden (HB4.out.grow b2);have Hb2:=hidden b2;clear b2)
        |((with_reducible refine at_st 4 ?_);refine wpList_sto _ rfl _ _ _ rfl b4 _ (B c.dig) rfl rfl B4'.out (by rw [HSZ.out];exact size_hash) (by rw [HSZ.out,B_size];simp) (B_one _) ?_;intro w3 B5 g3))
      exact bodyPost_ret (v:=.agg (B c.dig)) (results_cell_row rfl _ _ b4 _ _ _ _ rfl B5 Tryz.underlying39 rfl (by rw [HSZ.out];exact size_hash)) rfl ⟨rfl,below_row (grow_trans b1 Hb2.out) g3 Hg4.out⟩

end Go.Proofs.YtabiglnmfdpcfaaGreatDoor
