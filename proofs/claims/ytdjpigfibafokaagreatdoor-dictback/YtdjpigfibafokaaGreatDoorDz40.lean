/- drop.raise, as a contract. -/
import Derived.Test.YtdjpigfibafokaaGreatDoorDz01
import Derived.Test.YtdjpigfibafokaaGreatDoorDz39
import Derived.Test.YtdjpigfibafokaaGreatDoorDz23
import Derived.Deep.Upon
import Derived.Test.YtdjpigfibafokaaGreatDoorDz19
namespace Go.Proofs.YtdjpigfibafokaaGreatDoor
variable {E:List Ent}
variable {K:Lq}
variable {S fr pend ss:List Nat}
variable {base c f g gs h n room:Nat}
variable {cs cs0 cs1:Lz}
variable {v:Value}
variable {w w0:World}
set_option maxHeartbeats 4000000
set_option maxRecDepth 20000
open Go.RowKit

def DraPost (w:World) (S:List Nat) (g gs room:Nat) (cs0 cs1:Lz) (fr:List Nat) (E:List Ent) (K:Lq) (f:Nat) (ss:List Nat) (e:Ending) (w':World):Prop:=
  ∃(top:Nat) (cs2:Lz) (fr2:List Nat),e=.returned (.int .i64 (top:Int))∧Rz K ss cs1 fr f cs2 fr2 top∧DzI cs0 E K f ss 0 cs2 top∧Hs w S w' g gs room cs2 fr2

theorem draise_any (h:Hs w S w g gs room cs1 fr) (hS:∀k∈S,k<w.heap.size) (W0:Wf cs0 []) {E:List Ent} {K:Lq} {f:Nat} {ss:List Nat} (hK:Key K) (b:DesOk cs0 E K f ss) (hm:HmOk cs0 (f::ss) cs1) (hroom:noc cs0+258≤room) (a:Option Addr) (n c:Nat) (hn:n=ss.length) (hI:Kq S w (fun w'=>Ints9 w' a ss)) (hL:Kq S w Laid):
    Kc 166 #[.pointer (some ⟨g,0,none⟩),.agg (B K),.int .i64 (f:Int),.slice a n c] w (DraPost w S g gs room cs0 cs1 fr E K f ss):=by
  have h256:n≤256:=by rw [hn];exact b.len
  have HPS:Hid ((Tryz.prog.info? 63).map (·.size)=some (B K).size):=by show _=_;rw [B_size,hK.1];exact size_path
  have HI0:Hid (DzI cs0 E K f ss n cs1 f):=by
    show DzI cs0 E K f ss n cs1 f;rw [hn];exact dzi_start W0 b hm
  have HTK:Hid (ss.take n=ss):=List.take_of_length_le (by omega);have HH0:Hid (∀w1,Kb w w1→Hs w1 S w1 g gs room cs1 fr):=fun w1 hb=>h.rebase hb
  have HRD:Hid (∀w1,Kb w w1→∀wr (m:Nat) cs fr' (top:Nat),m<n→Hs w1 S wr g gs room cs fr'→DzI cs0 E K f ss (m+1) cs top→∃(lb s:Nat),a=some ⟨lb,0,none⟩∧wr.cell? ⟨lb,m,none⟩=some (.int .i64 (s:Int))∧(ss.take (m+1)=ss.take m++[s])∧(∀z,Kc 180 #[.agg (B K),.int .i64 (m:Int)] z fun e z'=>e=.returned (.int .i64 (kb K m))∧Kb z z')∧
      ∀z,Kb wr z→Kc 225 #[.pointer (some ⟨g,0,none⟩),.int .i64 (m:Int),.int .i64 (tl K m top s:Int),.int .i64 (tr K m top s:Int)] z fun e z'=>∃cs',e=.returned (.tuple #[.int .i64 (tkH cs fr':Int),.int .i64 0])∧InnR cs fr' m (tl K m top s) (tr K m top s) cs'∧DzI cs0 E K f ss m cs' (tkH cs fr')∧Hs w1 S z' g gs room cs' fr'.dropLast):=fun w1 hb wr m cs fr' top hmn hh hi=>by
    obtain ⟨lb,e1,e2⟩:=hh.kq (hI.grow hb) m (by omega);have hml:m<ss.length:=by omega
    have hm256:m<256:=by omega
    refine ⟨lb,ss.getD m 0,e1,e2,?_,fun z=>?_,fun z hz=>?_⟩
    · rw [List.take_add_one,List.getElem?_eq_getElem hml,List.getD_eq_getElem?_getD,List.getElem?_eq_getElem hml]
      rfl
    · have:=bit_any K (m:Int) z hK
      rwa [kbi_in K _ hm256] at this
    · obtain ⟨ml,mr,u,hu,hf,hst⟩:=dzi_fit b hml hi
      have hz2:=hh.grow hz;refine (hs_inner hz2 m _ _ hm256 ml mr u hu hf (hz2.kq (hL.grow hb)) (hz2.free (by have:=hi.noc;omega))).mono ?_;rintro e z' ⟨cs',hin,rfl,hs'⟩;exact ⟨cs',rfl,hin,hst fr' cs' hz2.frok hin hs'.2,hs'⟩
  have HPost:Hid (∀w1,Kb w w1→∀wr (top:Nat) cs2 fr2,Rz K ss cs1 fr f cs2 fr2 top→DzI cs0 E K f ss 0 cs2 top→Hs w1 S wr g gs room cs2 fr2→DraPost w S g gs room cs0 cs1 fr E K f ss (.returned (.int .i64 (top:Int))) wr):=fun w1 hb wr top cs2 fr2 h2 h3 h4=>⟨top,cs2,fr2,rfl,h2,h3,Hs.back hb h4⟩
  generalize DraPost w S g gs room cs0 cs1 fr E K f ss=P at HPost ⊢;have HS:=hidden hS;have HM:=hidden h256;have hwn:wrap64 ((n:Int)-1)=(n:Int)-1:=Go.IntWalk.wrap64_in _ (by omega);have HNS:=hidden hn;clear h hS W0 b hm hroom hn hI hL h256 hK;go_enter Tryz.func166,Tryz.ntmps166
  go_wp2_with (first
    |((with_reducible refine at_bxd 5 ?_);refine wpList_bx _ rfl _ _ rfl _ rfl ?_;intro w1 b5 hg5 hl5 B5 q5;have HB5:=hidden B5;have HQ5:=hidden q5;have HG5:=hidden hg5;clear hg5 hl5 B5 q5))
  have HBQ:Hid (Kq S w1 (fun w'=>Blk w' b5 63 (B K))):=Kq.blk HB5.out (fun e=>by have:=HS.out _ e;have:=HG5.out;omega);have HPo:Hid (∀wr (top:Nat) cs2 fr2,Rz K ss cs1 fr f cs2 fr2 top→DzI cs0 E K f ss 0 cs2 top→Hs w1 S wr g gs room cs2 fr2→P (.returned (.int .i64 (top:Int))) wr):=HPost.out w1 HQ5.out;have HRw:=hidden (HRD.out w1 HQ5.out);have HH2:=hidden (HH0.out w1 HQ5.out);clear HPost HRD HB5 HQ5 HG5 HS HH0
  go_loopw [9,10] (fun tv dv wr=>∃(m:Nat) (top:Nat) (cs:Lz) (fr':List Nat),m≤n∧tv=.int .i64 (top:Int)∧dv=.int .i64 ((m:Int)-1)∧Hid (Hs w1 S wr g gs room cs fr')∧Hid (DzI cs0 E K f ss m cs top)∧Hid (∀cs2 fr2 t2,Rz K (ss.take m) cs fr' top cs2 fr2 t2→Rz K ss cs1 fr f cs2 fr2 t2)) (fun _ dv _=>(intOf dv+1).toNat)
  case atStart=>exact ⟨n,f,cs1,fr,Nat.le_refl _,rfl,by first | rfl | (rw [hwn]) | go_num,HH2.out,HI0.out,fun _ _ _ q=>by rw [HTK.out] at q;exact q⟩
  case round=>
    clear HH2 HI0 hwn;obtain ⟨m,top,cs,fr',hmn,rfl,rfl,HH,HI,HZ⟩:=hrel;cases m with
    | zero=>
      have e0:((0:Nat):Int)-1= -1:=rfl;rw [e0];have HF:Hid (P (.returned (.int .i64 (top:Int))) wr):=HPo.out wr top cs fr' (HZ.out _ _ _ (by rw [List.take_zero];exact Rz.done _ _ _)) HI.out HH.out
      go_wp2_with fail
      exact HF.out
    | succ m=>
      have e0:((m+1:Nat):Int)-1=(m:Int):=by omega
      rw [e0];obtain ⟨lb,s,rfl,hcl,hts,hbt,hin⟩:=HRw.out wr m cs fr' top (by omega) HH.out HI.out;have HCL:=hidden hcl;have HIN:=hidden hin;have HBT:=hidden hbt;have HBK:=hidden (HH.out.kq HBQ.out);have HZ2:Hid (∀cs1' cs2 fr2 t2,InnR cs fr' m (tl K m top s) (tr K m top s) cs1'→Rz K (ss.take m) cs1' fr'.dropLast (tkH cs fr') cs2 fr2 t2→Rz K ss cs1 fr f cs2 fr2 t2):=fun cs1' cs2 fr2 t2 a1 a2=>by
        have hlm:(ss.take m).length=m:=by rw [List.length_take];have:=HNS.out;omega
        refine HZ.out cs2 fr2 t2 ?_;rw [hts];refine Rz.step (cs1:=cs1') ?_ a2;rw [hlm];exact a1
      obtain ⟨th,hth⟩:∃th:Int,th=(tkH cs fr':Int):=⟨_,rfl⟩;rw [← hth] at HIN;have HTH:=hidden hth;have k0:(0:Int)≤(m:Int):=by omega
      have k1:(m:Int)<(n:Int):=by omega
      have hm256:m<256:=by have:=HM.out;omega
      have hwm:wrap64 ((m:Int)-1)=(m:Int)-1:=Go.IntWalk.wrap64_in _ (by omega);have hkb:=kb_two K m;rcases hkb with q | q
      · have el:(tl K m top s:Int)=(top:Int):=by unfold tl;rw [if_neg (by omega)]
        have er:(tr K m top s:Int)=(s:Int):=by unfold tr;rw [if_neg (by omega)]
        rw [el,er] at HIN;rw [q] at HBT;generalize (s:Int)=sy at hcl HCL HIN;generalize (top:Int)=ty at HIN ⊢;clear hin hbt hth HZ HH HI HPo HRw hts hmn e0 el er q
        go_wp2_with fail
        refine wp_region_held_drew (S:=fun w'=>Kb wr w') (by kernel_rfl) ((below_drewN (Below.refl _ _) 1)) (fun hHeld=>?_);refine tkp 0 (.int .i64 ty) hHeld ?_;simp only [Act.put,zq1,zq2,zq4,zq5,zq6];refine tkp 1 (.slice (some ⟨lb,0,none⟩) n c) hHeld ?_;simp only [Act.put,zq1,zq2,zq3,zq4,zq5,zq6];refine tkp 2 (.int .i64 (m:Int)) hHeld ?_;simp only [Act.put,zq1,zq2,zq3,zq4,zq5,zq6];refine tkp 3 (.pointer (some ⟨lb,m,none⟩)) hHeld ?_;simp only [Act.put,zq1,zq2,zq3,zq4,zq5,zq6];refine tkg 4 (.int .i64 sy) rfl (Or.inl ⟨by rfl,fun w hS=>by (have q1:=below_cell hS HCL.out;go_simp)⟩) hHeld ?_;simp only [Act.put,zq1,zq2,zq3,zq4,zq5,zq6];refine tkp 5 (.int .i64 ty) hHeld ?_;simp only [Act.put,zq1,zq2,zq3,zq4,zq5,zq6];refine tkp 6 (.int .i64 sy) hHeld ?_;simp only [Act.put,zq1,zq2,zq3,zq4,zq5,zq6];refine wpAnyH_done (by kernel_rfl) ?_ _;have HHd:=hidden hHeld;have HBK2:=hidden (HBK.out.grow hHeld);clear hHeld hcl
        go_wp2_with (first
          |((with_reducible refine at_ldd 26 5 ?_);refine wpList_ld _ rfl _ _ rfl b5 _ rfl HBK2.out _ _ Tryz.underlying63 HPS.out ?_)
          |(go_at_call 180;refine (HBT.out _).mono ?_;rintro e z1 ⟨rfl,a1⟩;replace HHd:=hidden (grow_trans HHd.out a1);clear a1)
          |(go_at_call 225;refine (HIN.out _ HHd.out).mono ?_;rintro e z2 ⟨cs',rfl,hin2,hi2,hs2⟩;have HIN2:=hidden hin2;have HI2:=hidden hi2;have HS2:=hidden hs2;clear hin2 hi2 hs2))
        exact ⟨⟨m,tkH cs fr',cs',fr'.dropLast,by omega,by rw [HTH.out],rfl,HS2.out,HI2.out,fun cs2 fr2 t2 q=>HZ2.out cs' cs2 fr2 t2 HIN2.out q⟩,by simp only [intOf];omega⟩
      · have el:(tl K m top s:Int)=(s:Int):=by unfold tl;rw [if_pos q]
        have er:(tr K m top s:Int)=(top:Int):=by unfold tr;rw [if_pos q]
        rw [el,er] at HIN;rw [q] at HBT;generalize (s:Int)=sy at hcl HCL HIN;generalize (top:Int)=ty at HIN ⊢;clear hin hbt hth HZ HH HI HPo HRw hts hmn e0 el er q
        go_wp2_with fail
        refine wp_region_held_drew (S:=fun w'=>Kb wr w') (by kernel_rfl) ((below_drewN (Below.refl _ _) 1)) (fun hHeld=>?_);refine tkp 0 (.int .i64 ty) hHeld ?_;simp only [Act.put,zq1,zq2,zq4,zq5,zq6];refine tkp 1 (.slice (some ⟨lb,0,none⟩) n c) hHeld ?_;simp only [Act.put,zq1,zq2,zq3,zq4,zq5,zq6];refine tkp 2 (.int .i64 (m:Int)) hHeld ?_;simp only [Act.put,zq1,zq2,zq3,zq4,zq5,zq6];refine tkp 3 (.pointer (some ⟨lb,m,none⟩)) hHeld ?_;simp only [Act.put,zq1,zq2,zq3,zq4,zq5,zq6];refine tkg 4 (.int .i64 sy) rfl (Or.inl ⟨by rfl,fun w hS=>by (have q1:=below_cell hS HCL.out;go_simp)⟩) hHeld ?_;simp only [Act.put,zq1,zq2,zq3,zq4,zq5,zq6];refine tkp 5 (.int .i64 ty) hHeld ?_;simp only [Act.put,zq1,zq2,zq3,zq4,zq5,zq6];refine tkp 6 (.int .i64 sy) hHeld ?_;simp only [Act.put,zq1,zq2,zq3,zq4,zq5,zq6];refine wpAnyH_done (by kernel_rfl) ?_ _;have HHd:=hidden hHeld;have HBK2:=hidden (HBK.out.grow hHeld);clear hHeld hcl
        go_wp2_with (first
          |((with_reducible refine at_ldd 26 5 ?_);refine wpList_ld _ rfl _ _ rfl b5 _ rfl HBK2.out _ _ Tryz.underlying63 HPS.out ?_)
          |(go_at_call 180;refine (HBT.out _).mono ?_;rintro e z1 ⟨rfl,a1⟩;replace HHd:=hidden (grow_trans HHd.out a1);clear a1)
          |(go_at_call 225;refine (HIN.out _ HHd.out).mono ?_;rintro e z2 ⟨cs',rfl,hin2,hi2,hs2⟩;have HIN2:=hidden hin2;have HI2:=hidden hi2;have HS2:=hidden hs2;clear hin2 hi2 hs2))
        exact ⟨⟨m,tkH cs fr',cs',fr'.dropLast,by omega,by rw [HTH.out],rfl,HS2.out,HI2.out,fun cs2 fr2 t2 q=>HZ2.out cs' cs2 fr2 t2 HIN2.out q⟩,by simp only [intOf];omega⟩

end Go.Proofs.YtdjpigfibafokaaGreatDoor

namespace Go.Proofs.YtdjpigfibafokaaGreatDoor
variable {E:List Ent}
variable {K:Lq}
variable {S fr pend ss:List Nat}
variable {base c f g gs h n room:Nat}
variable {cs cs0 cs1:Lz}
variable {v:Value}
variable {w w0:World}
set_option maxHeartbeats 4000000
set_option maxRecDepth 20000
open Go.RowKit

theorem wpList_appN {ops:Array Oper} {rest:List Oper} {o:Oper} {a:Act} {Q:Exit→Act→World→Prop} (w:World) (hgd:o.guard=none) (s x:Operand)
    (ho:o.op=.call { callee:=.builtin .append,args:= #[s,x],argTypes:= #[45,45]})
    (base:Nat) (v:Value) (n:Nat) (xs:List Nat) (hs:a.eval s=v) (hown:w.ownsRow base 3 1 v n (nats xs))
    (xa:Option Addr) (m c:Nat) (ys:List Nat) (hx:a.eval x=.slice xa m c) (hy:Lst w 3 1 (.slice xa m c) m (nats ys))
    (h63:n+m≤100000) (hbase:base≤w.heap.size)
    (hk:∀b c w',w'.ownsRow base 3 1 (.slice b (n+m) c) (n+m) (nats (xs++ys))→w.grownBy w' v.ownBlock→wpList Tryz.prog ops Q rest (a.put o.dst (.slice b (n+m) c)) w'):wpList Tryz.prog ops Q (o::rest) a w:=by
  have hn:nats (xs++ys)=nats xs++nats ys:=by simp [nats]
  have hyl:(nats ys).length=m * 1:=hy.1;obtain ⟨i,z,hi,hz,hsize,hby,hzs⟩:=info_nat;have hsl:∀(v':Value) (w':World),w'.ownsRow base 3 1 v' (n+m) (nats (xs++ys))→∃b c,v'=.slice b (n+m) c:=fun v' w' h=>lst_slice (owR_lst h)
  by_cases hm:m=0
  · subst hm
    obtain ⟨va,vc,hv⟩:=lst_slice (owR_lst hown);have hys:ys=[]:=by
      rw [nats_length,Nat.zero_mul] at hyl;exact List.eq_nil_of_length_eq_zero hyl
    subst hys;have hvc:n≤vc:=by
      by_cases hn0:0<n
      · obtain ⟨g',c',e,hc'⟩:=lst_pos (owR_lst hown) hn0
        rw [hv] at e;injection e with e1 e2 e3;omega
      · omega
    refine wpList_plain hgd fun K hK=>?_
    have hr:(Builtin.append_ #[45,45] o.type #[v,.slice xa 0 c]).run Tryz.prog w=.ok v w:=by
      rw [hv];refine run_append_nothing w _ _ _ _ i Tryz.underlying45 hi va n vc hvc _ ?_;cases xa with
      | none=>exact Src.ofNil w Tryz.underlying45 c
      | some p=>exact Src.ofSlice w Tryz.underlying45 p 0 c [] (by simp) (fun j u h=>by simp at h) (fun u h=>by cases h)
    unfold Oper.wp execOp;simp only [ho,resolve,invoke,builtin,Sem.run_bind,Sem.run_pure,Result.andThen_ok,List.map_toArray,List.map_cons,List.map_nil,hs,hx,hr];have:=hk va vc w (by rw [List.append_nil,Nat.add_zero,← hv];exact hown) (World.grownBy.refl _ _);rw [hv];exact hK _ _ this
  · obtain ⟨g',c',e,_⟩:=lst_pos hy (by omega)
    injection e with e1 e2 e3;subst e1;refine wpList_append_own w hgd s x _ ho base _ i z 1 8 Tryz.underlying45 hi hz hsize hby hzs (by omega) v n (nats xs) hs hown ⟨g',0,none⟩ m c (nats ys) hx hyl (by
      intro j q hq;rw [Addr.add_lit,Nat.zero_add,lst_cell hy j (by rw [← hyl];exact (List.getElem?_eq_some_iff.1 hq).1)];exact hq) (by intro u hu;simp only [nats,List.mem_map] at hu;obtain ⟨_,_,rfl⟩:=hu;rfl) (by simp only [maxLen];omega) (by omega) hbase ?_
    intro v' w' h2 h3 _;rw [← hn] at h2;obtain ⟨b,c2,e2⟩:=hsl v' w' h2;subst e2;exact hk _ _ _ h2 h3

theorem drop_none (H:Hs w0 S w g gs room cs fr) (h:Nat) (T:Tre) (hT:IsT cs h T) (K:Lq) (hK:Key K) (he:vAh true (cot cs h) (cat cs h) h=0) (hr:vRt true (cot cs h) (cat cs h) h=0) (hf:noc cs+258≤room) (hn:(fnd (T.efin K) K).2=false):Kc 91 #[.pointer (some ⟨g,0,none⟩),.int .i64 (h:Int),.agg (B K)] w fun e w'=>e=.returned (.tuple #[.int .i64 (h:Int),.bool false,.int .i64 0])∧Kb w w':=by
  have HAH:Hid (Kr w 160 #[.pointer (some ⟨g,0,none⟩),.int .i64 (h:Int)] (.int .i64 0)):=fun w' hb=>by
    have:=athand_any (H.vw.grow hb) (h:Int);rwa [he] at this
  have HFT:Hid (Kr w 156 #[.pointer (some ⟨g,0,none⟩),.int .i64 1] (.bool true)):=fun w' hb=>by
    have:=fits9_any (H.grow hb) 1;rwa [show fitsN (noc cs) room 1=true by simp [fitsN];omega] at this
  have HPS:Hid ((Tryz.prog.info? 63).map (·.size)=some (B K).size):=by show _=_;rw [B_size,hK.1];exact size_path
  have HFN:Hid (∀w',Kb w w'→Kc 161 #[.pointer (some ⟨g,0,none⟩),.int .i64 (h:Int),.agg (B K)] w' fun e w''=>∃a n c,e=.returned (.tuple #[.slice a n c,.bool false])∧Below w'.heap.size w' w''):=fun w' hb=>by
    refine (dfind_any (H.vw.grow hb) H.2 h T hT K hK hr).mono ?_;rintro e w'' ⟨a,c,rfl,_,b⟩;exact ⟨a,_,c,by rw [hn],b⟩
  generalize (h:Int)=hh at HAH HFN ⊢;clear H he hf hT hK hr hn;go_enter Tryz.func91,Tryz.ntmps91
  go_wp2_with (first
    |((with_reducible refine at_bxd 5 ?_);refine wpList_bx _ rfl _ _ rfl _ rfl ?_;intro w1 b5 hg5 hl5 B5 q5;have HB5:=hidden B5;have HQ5:=hidden q5;have HG5:=hidden hg5;clear hg5 hl5 B5 q5)
    |(go_at_call 160;refine (HAH.out _ HQ5.out).mono ?_;rintro e w2 ⟨rfl,b2⟩;have HQ2:=hidden (grow_trans HQ5.out b2);have HB2:=hidden (HB5.out.grow b2);clear b2)
    |(go_at_call 156;refine (HFT.out _ HQ2.out).mono ?_;rintro e w3 ⟨rfl,b3⟩;have HQ3:=hidden (grow_trans HQ2.out b3);have HB3:=hidden (HB2.out.grow b3);clear b3)
    |((with_reducible refine at_ldd 29 5 ?_);refine wpList_ld _ rfl _ _ rfl b5 _ rfl HB3.out _ _ Tryz.underlying63 HPS.out ?_)
    |(go_at_call 161;refine (HFN.out _ HQ3.out).mono ?_;rintro e w4 ⟨fa,fn,fc,rfl,b4⟩;have HQ4:=hidden (grow_trans HQ3.out b4);clear b4))
  go_ret3;exact ⟨rfl,HQ4.out⟩

theorem owR_cap {a:Option Addr} {xs:List Value} (h:w.ownsRow base 3 1 (.slice a n c) n xs):n≤c:=by
  by_cases hn:0<n
  · obtain ⟨g,c',e,hc⟩:=lst_pos (owR_lst h) hn
    injection e with _ _ e3;omega
  · omega

def shF (cs:Lz) (K:Lq) (T:Tre):Nat:=(shk (fun h=>(sdC cs h).kind) (T.oth K) (T.oth K).length 0).2
def shN (cs:Lz) (K:Lq) (T:Tre):Nat:=(shk (fun h=>(sdC cs h).kind) (T.oth K) (T.oth K).length 0).1
def shS (cs:Lz) (K:Lq) (T:Tre):List Nat:=(T.oth K).take (shN cs K T)
theorem shS_len (cs:Lz) (K:Lq) (T:Tre):(shS cs K T).length=shN cs K T:=by
  have:=shk_le (fun h=>(sdC cs h).kind) (T.oth K) (T.oth K).length 0;unfold shS;rw [List.length_take];unfold shN;omega

theorem dway_any (V:Vw w v true (cot cs) (cat cs)) (W:Wf cs pend) (h:Nat) (T:Tre) (hT:IsT cs h T) (K:Lq) (hK:Key K) (hr:vRt true (cot cs h) (cat cs h) h=0) (hy:(fnd (T.efin K) K).2=true):
    (∀w',Kb w w'→Kc 161 #[v,.int .i64 (h:Int),.agg (B K)] w' fun e w''=>∃a c,e=.returned (.tuple #[.slice a (T.hs K h).length c,.bool true])∧((T.hs K h).length≤c∧Ints9 w'' a (T.hs K h))∧Below w'.heap.size w' w'')∧
    (∀w' a c,Kb w w'→(T.hs K h).length≤c∧Ints9 w' a (T.hs K h)→Kc 162 #[v,.slice a (T.hs K h).length c,.agg (B K)] w' fun e w''=>e=.returned (.tuple #[.slice a (shN cs K T) c,.int .i64 (shF cs K T:Int)])∧Below w'.heap.size w' w'')∧
    (∀w' a c,Kb w w'→(T.hs K h).length≤c∧Ints9 w' a (T.hs K h)→Kc 163 #[v,.slice a (shN cs K T) c,.agg (B K)] w' fun e w''=>∃a' c',e=.returned (.slice a' (shN cs K T) c')∧w''.ownsRow w'.heap.size 3 1 (.slice a' (shN cs K T) c') (shN cs K T) (nats (shS cs K T))∧Below w'.heap.size w' w'')∧(T.hs K h).length≤256:=by
  have hrd:=root_dp hT hr;have h256:(T.hs K h).length≤256:=by
    have:=(way_tree W K T h 0 hT hrd (by omega)).2.2;rw [Tre.hs_oth];omega
  have hol:=Tre.hs_oth K T h;refine ⟨fun w' hb=>?_,fun w' a c hb hi=>?_,fun w' a c hb hi=>?_,h256⟩
  · refine (dfind_any (V.grow hb) W h T hT K hK hr).mono ?_
    rintro e w'' ⟨a,c,rfl,o,b⟩;exact ⟨a,c,by rw [hy],⟨owR_cap o,ints9_lst (owR_lst o) rfl⟩,b⟩
  · have:=shrink_any (w:=w') (v:=v) (fun h=>(sdC cs h).kind) K hK a (T.hs K h).length c (T.oth K) h256 hi.1 (fun w'' o hb2=>by
      have:=kind_any ((V.grow hb).grow hb2) (o:Int);rwa [cat_nat] at this) (oside_at (V.grow hb) W h T hT K hK hrd hi.2)
    rw [hol] at this ⊢;exact this
  · have hle:=shk_le (fun h=>(sdC cs h).kind) (T.oth K) (T.oth K).length 0
    have hle2:shN cs K T≤(T.hs K h).length:=by rw [hol];exact hle
    have:=dbeside_any (w:=w') (v:=v) K hK a (shN cs K T) c (shS cs K T) (shS_len cs K T) (by omega) (fun k hk=>by
      obtain ⟨x,o,a1,a2,a3⟩:=oside_at (V.grow hb) W h T hT K hK hrd hi.2 k (by omega);exact ⟨x,o,a1,by rw [shS,List.getElem?_take_of_lt hk];exact a2,a3⟩)
    refine this.mono ?_;rintro e w'' ⟨a',c',rfl,o,b⟩;rw [shS_len] at o ⊢;exact ⟨a',c',rfl,o,b⟩

def DropTo (cs:Lz) (fr:List Nat) (root:Nat) (K:Lq) (f:Nat) (ss:List Nat) (top:Nat) (cs':Lz) (fr':List Nat):Prop:=
  ∃(cs2:Lz) (fr2:List Nat) (n:Nat),Rz K ss (holdM cs (f::ss)) fr f cs2 fr2 top∧Run cs2 fr2 [root] cs' fr' n

def DpPost (w0:World) (S:List Nat) (g gs room:Nat) (cs:Lz) (fr:List Nat) (E:List Ent) (root:Nat) (K:Lq) (f:Nat) (ss:List Nat) (e:Ending) (w':World):Prop:=
  ∃(top:Nat) (cs':Lz) (fr':List Nat),e=.returned (.tuple #[.int .i64 (top:Int),.bool true,.int .i64 0])∧DropTo cs fr root K f ss top cs' fr'∧DropOk cs E K root top ss cs'∧Hs w0 S w' g gs room cs' fr'

theorem des_valid (b:DesOk cs E K f ss):∀x∈f::ss,x=0∨0<cc cs (x-1):=fun x hx=>by
  rcases List.mem_cons.1 hx with hx | hx
  · subst hx
    obtain ⟨U,u1,_⟩:=b.low;rcases u1.occ with q | q
    · exact .inl q
    · exact .inr q.2
  · obtain ⟨d,hd,e⟩:=List.getElem_of_mem hx
    obtain ⟨V,v1,_⟩:=b.side d hd;have:ss.getD d 0=x:=by rw [List.getD_eq_getElem?_getD,List.getElem?_eq_getElem hd];exact e
    rw [this] at v1;rcases v1.occ with q | q
    · exact .inl q
    · exact .inr q.2

theorem fnd_yes {l:List Ent} (h:(fnd l K).2=true):∃b,(K,b)∈l:=by
  match l,h with
  | [],h=>simp [fnd] at h
  | [e],h=>
    simp only [fnd] at h;split at h
    · next q=>exact ⟨e.2,by rw [← q];simp⟩
    · cases h
  | _::_::_,h=>simp [fnd] at h

theorem owR_one (w:World) (base:Nat) (x:Nat) (y:Int) (hy:y=(x:Int)) (hb:base≤w.heap.size):(w.alloc (.cells #[.int .i64 y] 3)).ownsRow base 3 1 (.slice (some ⟨w.heap.size,0,none⟩) 1 1) 1 (nats [x]):=⟨by simp [nats],.inr ⟨w.heap.size,1,_,rfl,hb,Blk.new _ _ _,by omega,by decide,by simp,by simp [nats,hy]⟩⟩

theorem drop_new {S0:List Nat} (H0:Hs w0 S0 w g gs room cs fr) (h:Nat) (T:Tre) (hT:IsT cs h T) (K:Lq) (hK:Key K) (hL0:Kq S0 w0 Laid) (he:vAh true (cot cs h) (cat cs h) h=0) (hr:vRt true (cot cs h) (cat cs h) h=0) (ho:0<own cs [] (h-1)) (h1:1≤h) (hf:noc cs+258≤room) (hy:(fnd (T.efin K) K).2=true) (hbo:DesOk cs T.ents K (shF cs K T) (shS cs K T)) (hct:∀i,cc cs i+258<1073741824):
    Kc 91 #[.pointer (some ⟨g,0,none⟩),.int .i64 (h:Int),.agg (B K)] w (DpPost w0 S0 g gs room cs fr T.ents h K (shF cs K T) (shS cs K T)):=by
  have h256:=hbo.len;obtain ⟨S,H,hN,hkq,hS,hbk⟩:=H0.from
  have hL:=hkq _ hL0;have hW:=H.2;have hmk:=hm_ok hW _ (shF cs K T::shS cs K T) rfl (des_valid hbo);obtain ⟨q1,q2,q3,h256w⟩:=dway_any H.vw H.2 h T hT K hK hr hy;have HFN:=hidden q1;have HSH:=hidden q2;have HBE:=hidden q3;have hct2:∀q,cot cs q<1073741824:=fun q=>by
    unfold cot;split
    · have:=hct (q-1).toNat
      omega
    · omega
  obtain ⟨b,hb⟩:=fnd_yes hy;have hmem:=efin_mem K T _ hb;have hsl:=shS_len cs K T;generalize shF cs K T=f at *;generalize shS cs K T=ss at *;generalize shN cs K T=sn at *;have HCN:Hid (∀w' a1 a2 c1 c2,Kb w w'→Ints9 w' a1 (T.hs K h)→w'.ownsRow w.heap.size 3 1 (.slice a2 sn c2) sn (nats ss)→Kc 164 #[.pointer (some ⟨g,0,none⟩),.slice a1 (T.hs K h).length c1,.slice a2 sn c2,.int .i64 (f:Int)] w' fun e w''=>e=.returned (.bool true)∧Below w'.heap.size w' w''):=fun w' a1 a2 c1 c2 hb i1 o2=>dcountable_any (H.vw.grow hb) hct2 a1 a2 _ _ c1 c2 _ _ i1 (ints9_lst (owR_lst o2) hsl.symm) rfl hsl.symm h256w (f:Int)
  have HHA:Hid (∀w4 a c,Kb w w4→w4.ownsRow w.heap.size 3 1 (.slice a (1+sn) c) (1+sn) (nats (f::ss))→Kc 165 #[.pointer (some ⟨g,0,none⟩),.slice a (1+sn) c] w4 fun e w5=>e=.returned (.slice none 0 0)∧Hs w4 S w5 g gs room (holdM cs (f::ss)) fr):=fun w4 a c hb o=>dholdAll_any (H.rebase hb) a _ c (f::ss) (ints9_kq o (by rw [List.length_cons];omega) (fun k hk hm=>by have:=(o.lt k hk).1;have:=hS k hm;omega)) (by rw [List.length_cons];omega) (by omega) (des_valid hbo) (fun _ i=>by have:=hct i;omega)
  have HRA:Hid (∀w4 a c w5,Kb w w4→w4.ownsRow w.heap.size 3 1 (.slice a sn c) sn (nats ss)→Hs w4 S w5 g gs room (holdM cs (f::ss)) fr→Kc 166 #[.pointer (some ⟨g,0,none⟩),.agg (B K),.int .i64 (f:Int),.slice a sn c] w5 fun e w6=>∃top:Nat,e=.returned (.int .i64 (top:Int))∧∃cs2 fr2,Rz K ss (holdM cs (f::ss)) fr f cs2 fr2 top∧DzI cs T.ents K f ss 0 cs2 top∧Hs w S w6 g gs room cs2 fr2):=fun w4 a c w5 hb o h5=>by
    have i4:Kq S w4 (fun w'=>Ints9 w' a ss):=ints9_kq o hsl.symm (fun k hk hm=>by have:=(o.lt k hk).1;have:=hS k hm;omega);obtain ⟨S5,H5,hN5,hkq5,hS5,hbk5⟩:=h5.from
    refine (draise_any H5 hS5 hW hK hbo hmk hf a _ c hsl.symm (hkq5 _ i4) (hkq5 _ (hL.grow hb))).mono ?_;rintro e w6 ⟨top,cs2,fr2,rfl,r2,r3,r4⟩;exact ⟨top,rfl,cs2,fr2,r2,r3,Hs.back hb (hbk5 _ _ _ r4)⟩
  have HDR:Hid (∀w6 (top:Nat),(∃cs2 fr2,Rz K ss (holdM cs (f::ss)) fr f cs2 fr2 top∧DzI cs T.ents K f ss 0 cs2 top∧Hs w S w6 g gs room cs2 fr2)→Kc 97 #[.pointer (some ⟨g,0,none⟩),.int .i64 (h:Int)] w6 fun e w7=>∃x y:Int,e=.returned (.tuple #[.int .i64 x,.int .i64 y])∧∃cs' fr',DropTo cs fr h K f ss top cs' fr'∧DropOk cs T.ents K h top ss cs'∧Hs w S w7 g gs room cs' fr'):=fun w6 top ⟨cs2,fr2,r2,r3,r4⟩=>by
    have ho2:0<own cs2 [] (h-1):=by
      have:=r3.own (h-1);rw [List.take_zero,List.count_nil] at this;omega
    have hd:=hs_drop r4 (h-1) ho2;rw [show h-1+1=h by omega] at hd;refine hd.mono ?_;rintro e w7 ⟨cs',fr',k,hrun,hst,rfl,h7⟩;exact ⟨_,_,rfl,cs',fr',⟨cs2,fr2,k,r2,hrun⟩,drop_ok r3 hT hmem ho h1 hst,h7⟩
  have HH2:Hid (∀w7 (top:Nat),(∃cs' fr',DropTo cs fr h K f ss top cs' fr'∧DropOk cs T.ents K h top ss cs'∧Hs w S w7 g gs room cs' fr')→Kc 165 #[.pointer (some ⟨g,0,none⟩),.slice none 0 0] w7 fun e w8=>e=.returned (.slice none 0 0)∧∃cs' fr',DropTo cs fr h K f ss top cs' fr'∧DropOk cs T.ents K h top ss cs'∧Hs w S w8 g gs room cs' fr'):=fun w7 top ⟨cs',fr',p1,p2,p3⟩=>by
    obtain ⟨S7,H7,hN7,hkq7,hS7,hbk7⟩:=p3.from
    refine (dholdAll_any H7 none 0 0 [] (fun _ _ k hk=>absurd hk (by simp)) rfl (by omega) (fun x hx=>by cases hx) (fun q=>by omega)).mono ?_;rintro e w8 ⟨rfl,h8⟩;exact ⟨rfl,cs',fr',p1,p2,hbk7 _ _ _ h8⟩
  have HAH:Hid (Kr w 160 #[.pointer (some ⟨g,0,none⟩),.int .i64 (h:Int)] (.int .i64 0)):=fun w' hb=>by
    have:=athand_any (H.vw.grow hb) (h:Int);rwa [he] at this
  have HFT:Hid (Kr w 156 #[.pointer (some ⟨g,0,none⟩),.int .i64 1] (.bool true)):=fun w' hb=>by
    have:=fits9_any (H.grow hb) 1;rwa [show fitsN (noc cs) room 1=true by simp [fitsN];omega] at this
  have HPS:Hid ((Tryz.prog.info? 63).map (·.size)=some (B K).size):=by show _=_;rw [B_size,hK.1];exact size_path
  have HPost:Hid (∀w8 (top:Nat),(∃cs' fr',DropTo cs fr h K f ss top cs' fr'∧DropOk cs T.ents K h top ss cs'∧Hs w S w8 g gs room cs' fr')→DpPost w0 S0 g gs room cs fr T.ents h K f ss (.returned (.tuple #[.int .i64 (top:Int),.bool true,.int .i64 0])) w8):=fun w8 top ⟨cs',fr',p1,p2,p3⟩=>⟨top,cs',fr',rfl,p1,p2,hbk _ _ _ p3⟩
  have HBK:Hid (∀w4 w5 b6,Kb w w4→w.heap.size≤b6→Blk w4 b6 63 (B K)→Hs w4 S w5 g gs room (holdM cs (f::ss)) fr→Blk w5 b6 63 (B K)):=fun w4 w5 b6 hb hg hB h5=>h5.kq (Kq.blk hB (fun e=>by have:=hS _ e;omega))
  have HONE:Hid (∀z:World,w.heap.size≤z.heap.size→(z.alloc (.cells #[.int .i64 (f:Int)] 3)).ownsRow w.heap.size 3 1 (.slice (some ⟨z.heap.size,0,none⟩) 1 1) 1 (nats [f])):=fun z hz=>owR_one z _ f _ rfl hz
  have HNS:Hid (∀(z:World) b a n c,z.ownsRow b 3 1 (.slice a n c) n (nats ([f]++ss))→z.ownsRow b 3 1 (.slice a n c) n (nats (f::ss))):=fun z b a n c o=>o
  have HSN:Hid (sn≤256):=by show _≤_;omega
  obtain ⟨R7,hR7⟩:∃R7:World→Nat→Prop,R7=fun w7 top=>∃cs' fr',DropTo cs fr h K f ss top cs' fr'∧DropOk cs T.ents K h top ss cs'∧Hs w S w7 g gs room cs' fr':=⟨_,rfl⟩
  obtain ⟨R6,hR6⟩:∃R6:World→Nat→Prop,R6=fun w6 top=>∃cs2 fr2,Rz K ss (holdM cs (f::ss)) fr f cs2 fr2 top∧DzI cs T.ents K f ss 0 cs2 top∧Hs w S w6 g gs room cs2 fr2:=⟨_,rfl⟩
  obtain ⟨R5,hR5⟩:∃R5:World→World→Prop,R5=fun w4 w5=>Hs w4 S w5 g gs room (holdM cs (f::ss)) fr:=⟨_,rfl⟩
  replace HHA:Hid (∀w4 a c,Kb w w4→w4.ownsRow w.heap.size 3 1 (.slice a (1+sn) c) (1+sn) (nats (f::ss))→Kc 165 #[.pointer (some ⟨g,0,none⟩),.slice a (1+sn) c] w4 fun e w5=>e=.returned (.slice none 0 0)∧R5 w4 w5):=by rw [hR5];exact HHA
  replace HRA:Hid (∀w4 a c w5,Kb w w4→w4.ownsRow w.heap.size 3 1 (.slice a sn c) sn (nats ss)→R5 w4 w5→Kc 166 #[.pointer (some ⟨g,0,none⟩),.agg (B K),.int .i64 (f:Int),.slice a sn c] w5 fun e w6=>∃top:Nat,e=.returned (.int .i64 (top:Int))∧R6 w6 top):=by rw [hR5,hR6];exact HRA
  replace HDR:Hid (∀w6 (top:Nat),R6 w6 top→Kc 97 #[.pointer (some ⟨g,0,none⟩),.int .i64 (h:Int)] w6 fun e w7=>∃x y:Int,e=.returned (.tuple #[.int .i64 x,.int .i64 y])∧R7 w7 top):=by rw [hR6,hR7];exact HDR
  replace HH2:Hid (∀w7 (top:Nat),R7 w7 top→Kc 165 #[.pointer (some ⟨g,0,none⟩),.slice none 0 0] w7 fun e w8=>e=.returned (.slice none 0 0)∧R7 w8 top):=by rw [hR7];exact HH2
  replace HPost:Hid (∀w8 (top:Nat),R7 w8 top→DpPost w0 S0 g gs room cs fr T.ents h K f ss (.returned (.tuple #[.int .i64 (top:Int),.bool true,.int .i64 0])) w8):=by rw [hR7];exact HPost
  replace HBK:Hid (∀w4 w5 b6,Kb w w4→w.heap.size≤b6→Blk w4 b6 63 (B K)→R5 w4 w5→Blk w5 b6 63 (B K)):=by rw [hR5];exact HBK
  generalize DpPost w0 S0 g gs room cs fr T.ents h K f ss=P at HPost ⊢;generalize (h:Int)=hh at HFN HAH HDR ⊢;generalize T.hs K h=hs at HFN HSH HBE HCN;generalize hs.length=hn at HFN HSH HBE HCN;obtain ⟨fy,hfy⟩:∃y:Int,y=(f:Int):=⟨_,rfl⟩;rw [← hfy] at HSH HCN HRA HONE;have HFY:=hidden hfy;clear hR7 hR6 hR5 H0 H hN hkq hS hbk hW hmk hT hK he hr ho hf hy hbo hct h256 h256w hct2 hsl q1 q2 q3 hb hmem hL hL0 h1 hfy;go_enter Tryz.func91,Tryz.ntmps91
  go_wp2_with (first
    |((with_reducible refine at_bxd 5 ?_);refine wpList_bx _ rfl _ _ rfl _ rfl ?_;intro w1 b5 hg5 hl5 B5 q5;have HB5:=hidden B5;have HQ5:=hidden q5;have HG5:=hidden hg5;clear hg5 hl5 B5 q5)
    |(go_at_call 160;refine (HAH.out _ HQ5.out).mono ?_;rintro e w2 ⟨rfl,b2⟩;have HQ2:=hidden (grow_trans HQ5.out b2);have HB2:=hidden (HB5.out.grow b2);clear b2)
    |(go_at_call 156;refine (HFT.out _ HQ2.out).mono ?_;rintro e w3 ⟨rfl,b3⟩;have HQ3:=hidden (grow_trans HQ2.out b3);have HB3:=hidden (HB2.out.grow b3);clear b3)
    |((with_reducible refine at_ldd 29 5 ?_);refine wpList_ld _ rfl _ _ rfl b5 _ rfl HB3.out _ _ Tryz.underlying63 HPS.out ?_)
    |(go_at_call 161;refine (HFN.out _ HQ3.out).mono ?_;rintro e w4 ⟨fa,fc,rfl,i4,b4⟩;have HI4:=hidden i4;have HQ4:=hidden (grow_trans HQ3.out b4);have HB4:=hidden (HB3.out.grow b4);clear b4 i4)
    |((with_reducible refine at_ldd 39 5 ?_);refine wpList_ld _ rfl _ _ rfl b5 _ rfl HB4.out _ _ Tryz.underlying63 HPS.out ?_)
    |(go_at_call 162;refine (HSH.out _ _ _ HQ4.out HI4.out).mono ?_;rintro e w6 ⟨rfl,b6⟩;have HI6:Hid (_∧_):=⟨HI4.out.1,HI4.out.2.grow b6⟩;have HQ6:=hidden (grow_trans HQ4.out b6);have HB6:=hidden (HB4.out.grow b6);clear b6)
    |((with_reducible refine at_ldd 45 5 ?_);refine wpList_ld _ rfl _ _ rfl b5 _ rfl HB6.out _ _ Tryz.underlying63 HPS.out ?_)
    |(go_at_call 163;refine (HBE.out _ _ _ HQ6.out HI6.out).mono ?_;rintro e w7 ⟨sa,sc,rfl,o7,b7⟩;have HO7:=hidden (owR_base o7 HQ6.out.size);have HI7:=hidden (HI6.out.2.grow b7);have HQ7:=hidden (grow_trans HQ6.out b7);have HB7:=hidden (HB6.out.grow b7);clear o7 b7)
    |(go_at_call 164;refine (HCN.out _ _ _ _ _ HQ7.out HI7.out HO7.out).mono ?_;rintro e w8 ⟨rfl,b8⟩;have HO8:=hidden (owR_grow HO7.out b8);have HQ8:=hidden (grow_trans HQ7.out b8);have HB8:=hidden (HB7.out.grow b8);clear b8;have HG8:=hidden (grow_alloc w8 (.cells #[.int .i64 fy] 3)))
    |(at_builtin;refine wpList_appN _ rfl _ _ rfl w.heap.size _ 1 [f] rfl (HONE.out w8 HQ8.out.size) sa sn sc ss rfl (owR_lst (owR_grow HO8.out HG8.out)) (by have:=HSN.out;omega) (Nat.le_trans HQ8.out.size HG8.out.size) ?_;intro a9 c9 w9 o9 g9;have HO9:=hidden (HNS.out _ _ _ _ _ o9);have HG9:=hidden (owR_below HG8.out (owR_one w8 w8.heap.size f fy HFY.out (Nat.le_refl _)) (Nat.le_refl _) g9);have HQ9:=hidden (grow_trans HQ8.out HG9.out);have HB9:=hidden (HB8.out.grow HG9.out);have HOS:=hidden (owR_grow HO8.out HG9.out);clear o9 g9)
    |(go_at_call 165;have mk:=mk1;clear mk;refine (HH2.out _ _ HR7.out).mono ?_;rintro e w13 ⟨rfl,r8⟩;have HR8:=hidden r8;clear r8)
    |(go_at_call 165;refine (HHA.out _ _ _ HQ9.out HO9.out).mono ?_;rintro e w10 ⟨rfl,r5⟩;have HR5:=hidden r5;have HB10:=hidden (HBK.out _ _ _ HQ9.out HG5.out HB9.out r5);clear r5;have mk1:Hid True:=trivial)
    |((with_reducible refine at_ldd 60 5 ?_);refine wpList_ld _ rfl _ _ rfl b5 _ rfl HB10.out _ _ Tryz.underlying63 HPS.out ?_)
    |(go_at_call 166;refine (HRA.out _ _ _ _ HQ9.out HOS.out HR5.out).mono ?_;rintro e w11 ⟨top,rfl,r6⟩;have HR6:=hidden r6;clear r6)
    |(go_at_call 97;refine (HDR.out _ _ HR6.out).mono ?_;rintro e w12 ⟨x7,y7,rfl,r7⟩;have HR7:=hidden r7;clear r7))
  go_ret3;exact HPost.out _ _ HR8.out

end Go.Proofs.YtdjpigfibafokaaGreatDoor

namespace Go.Proofs.YtdjpigfibafokaaGreatDoor
variable {E:List Ent}
variable {K:Lq}
variable {S fr pend ss:List Nat}
variable {base c f g gs h n room:Nat}
variable {cs cs0 cs1:Lz}
variable {v:Value}
variable {w w0:World}
set_option maxHeartbeats 4000000
set_option maxRecDepth 20000
open Go.RowKit

def nN:Nat→Nat→List Ent→Nat
  | 0,_,l=>l.length
  | n+1,d,l=>if l.length≤1 then l.length else 1+(nN n (d+1) (sideOf l d 0)+nN n (d+1) (sideOf l d 1))

def Tre.hds:Nat→Tre→List Nat
  | _,.emp=>[]
  | h,.lf _ _=>[h]
  | h,.nd _ hl hr l r=>h::(l.hds hl++r.hds hr)
end Go.Proofs.YtdjpigfibafokaaGreatDoor

namespace Go.Proofs.YtdjpigfibafokaaGreatDoor
variable {E:List Ent}
variable {K:Lq}
variable {S fr pend ss:List Nat}
variable {base c f g gs h n room:Nat}
variable {cs cs0 cs1:Lz}
variable {v:Value}
variable {w w0:World}
set_option maxHeartbeats 4000000
set_option maxRecDepth 20000
open Go.RowKit

def hasK (E:List Ent) (K:Lq):Bool:=E.any fun e=>e.1 == K
def dlE (E:List Ent) (K:Lq):List Ent:=E.filter fun e=>!(e.1 == K)

theorem hasK_perm {F:List Ent} (h:E.Perm F) (K:Lq):hasK E K=hasK F K:=by
  unfold hasK;rw [Bool.eq_iff_iff,List.any_eq_true,List.any_eq_true];constructor
  · rintro ⟨e,h1,h2⟩
    exact ⟨e,h.mem_iff.1 h1,h2⟩
  · rintro ⟨e,h1,h2⟩
    exact ⟨e,h.mem_iff.2 h1,h2⟩
theorem hasK_fin (w:Wf cs pend) {T:Tre} {h:Nat} (hT:IsT cs h T) (K:Lq):(fnd (T.efin K) K).2=hasK T.ents K:=by
  rw [Bool.eq_iff_iff];constructor
  · intro q
    obtain ⟨b,hb⟩:=fnd_yes q;exact List.any_eq_true.2 ⟨(K,b),efin_mem K T _ hb,by simp⟩
  · intro q
    obtain ⟨e,h1,h2⟩:=List.any_eq_true.1 q;have hk:e.1=K:=by simpa using h2
    rw [efin_key w K T h hT e h1 hk];simp [fnd,hk]
theorem dl_none (h:hasK E K=false):dlE E K=E:=by
  unfold dlE;rw [List.filter_eq_self];intro e he;have: ¬(e.1 == K)=true:=fun q=>by
    have:hasK E K=true:=List.any_eq_true.2 ⟨e,he,q⟩;rw [h] at this;cases this
  simpa using this

def dcostN (cs:Lz) (T:Tre) (K:Lq):Nat:=if hasK T.ents K then shN cs K T else 0

theorem dcost_le (w:Wf cs pend) {T:Tre} {h:Nat} (hT:IsT cs h T) (hd:(sdC cs h).kind=2→(sdC cs h).dp=0) (K:Lq):dcostN cs T K≤256∧(hasK T.ents K=false→dcostN cs T K=0)∧(hasK T.ents K=true→∀d,d<dcostN cs T K↔2≤(dE T.ents K d).length∧d<256):=by
  unfold dcostN
  by_cases q:hasK T.ents K=true
  · have hy:=hasK_fin w hT K
    rw [q] at hy;obtain ⟨b,hb⟩:∃b,T.efin K=[(K,b)]:=by
      obtain ⟨b,hb⟩:=fnd_yes hy;exact ⟨b,efin_key w K T h hT (K,b) (efin_mem K T _ hb) rfl⟩
    have ok:=des_ex w K hT hd hb;have ok2:DesOk cs T.ents K (shF cs K T) (shS cs K T):=ok;rw [if_pos q];refine ⟨by rw [← shS_len];exact ok2.len,fun e=>(by rw [q] at e;cases e),fun _ d=>by rw [← shS_len];exact ok2.count d⟩
  · rw [if_neg q]
    exact ⟨by omega,fun _=>rfl,fun e=>absurd e q⟩

structure DaIs (cs:Lz) (fr:List Nat) (T:Tre) (h:Nat) (K:Lq) (top:Nat) (cs':Lz) (fr':List Nat) (T':Tre):Prop where
  rt:Rt cs' top T'
  ents:T'.ents.Perm (dlE T.ents K)
  own:∀i,own cs' [] i+(if h=i+1 then 1 else 0)=own cs [] i+(if top=i+1 then 1 else 0)
  keep:∀x X,IsT cs x X→(x=0∨0<cc cs' (x-1))→IsT cs' x X
  noc:noc cs'≤noc cs+dcostN cs T K
  same:hasK T.ents K=false→top=h∧cs'=cs∧fr'=fr
  len:cs'.length≤cs.length+dcostN cs T K
  «to» :hasK T.ents K=true→DropTo cs fr h K (shF cs K T) (shS cs K T) top cs' fr'

def DaPost (w0:World) (S:List Nat) (g gs room:Nat) (cs:Lz) (fr:List Nat) (T:Tre) (h:Nat) (K:Lq) (e:Ending) (w':World):Prop:=
  ∃(top:Nat) (cs':Lz) (fr':List Nat) (T':Tre),e=.returned (.tuple #[.int .i64 (top:Int),.bool (hasK T.ents K),.int .i64 0])∧DaIs cs fr T h K top cs' fr' T'∧Hs w0 S w' g gs room cs' fr'

theorem Rt.ahand {T:Tre} (r:Rt cs h T):vAh true (cot cs h) (cat cs h) h=0:=by
  have:=r.refuse (n:=0) (by omega);unfold vRf at this;rw [if_pos rfl,if_neg (by omega)] at this;exact this

theorem drop_any (H:Hs w0 S w g gs room cs fr) {h:Nat} {T:Tre} (r:Rt cs h T) {K:Lq} (hK:Key K) (hL:Kq S w0 Laid) (hb:∀i,own cs [] i≤1000000) (hf:noc cs+258≤room):
    Kc 91 #[.pointer (some ⟨g,0,none⟩),.int .i64 (h:Int),.agg (B K)] w (DaPost w0 S g gs room cs fr T h K):=by
  have hy:=hasK_fin H.2 r.tree K
  by_cases q:hasK T.ents K=true
  · rw [q] at hy
    obtain ⟨b,hb1⟩:=fnd_yes hy;have hb2:=efin_key H.2 K T h r.tree (K,b) (efin_mem K T _ hb1) rfl;have h0:=efin_some r.tree hb2;have ok:DesOk cs T.ents K (shF cs K T) (shS cs K T):=des_ex H.2 K r.tree r.dp hb2;obtain ⟨_,hr1,hr2⟩:=H.sizes;have hct:∀i,cc cs i+258<1073741824:=fun i=>by
      have:=H.2.ccLe i 1000000 (hb i);omega
    refine (drop_new H h T r.tree K hK hL r.ahand r.root (r.own.resolve_left h0) (by omega) hf hy ok hct).mono ?_;rintro e w' ⟨top,cs',fr',rfl,tqq,p,hh⟩;obtain ⟨U,u1,u2⟩:=p.tree;have hc:dcostN cs T K=(shS cs K T).length:=by rw [dcostN,if_pos q,shS_len]
    refine ⟨top,cs',fr',U,by rw [q],⟨⟨u1,p.dp,?_⟩,u2,p.own,p.keep,by rw [hc];exact p.noc,fun e=>(by rw [q] at e;cases e),by rw [hc];exact p.len,fun _=>tqq⟩,hh⟩
    by_cases t0:top=0
    · exact .inl t0
    · refine .inr ?_
      have h1:=p.own (top-1);have:=p.ne;rw [if_pos (show top=top-1+1 by omega),if_neg (by omega)] at h1;omega
  · have q:hasK T.ents K=false:=by simpa using q
    rw [q] at hy;refine (drop_none H h T r.tree K hK r.ahand r.root hf hy).mono ?_;rintro e w' ⟨rfl,b⟩;exact ⟨h,cs,fr,T,by rw [q],⟨r,by rw [dl_none q],fun _=>rfl,fun x X hX _=>hX,Nat.le_add_right _ _,fun _=>⟨rfl,rfl,rfl⟩,Nat.le_add_right _ _,fun e=>(by rw [q] at e;cases e)⟩,H.grow b⟩

end Go.Proofs.YtdjpigfibafokaaGreatDoor
