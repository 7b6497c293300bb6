/- Arrays of bytes held against each other; bytes.Equal; tag.Clash, as a contract. -/
import Derived.Test.YtdjpigfibafokaaGreatDoorDz01
import Derived.Test.YtdjpigfibafokaaGreatDoorDz13
import Derived.Test.YtdjpigfibafokaaGreatDoorDz14
import Derived.Test.YtdjpigfibafokaaGreatDoorDz12
import Derived.Deep.RegionHeld2
import Derived.Test.YtdjpigfibafokaaGreatDoorDz21
import Derived.Test.YtdjpigfibafokaaGreatDoorDz18
namespace Go.Proofs.YtdjpigfibafokaaGreatDoor
variable {E:List Ent}
variable {K:Lq}
variable {S fr pend ss:List Nat}
variable {cs:Lz}
variable {g gs room:Nat}
variable {v:Value}
variable {w w0:World}
set_option maxHeartbeats 4000000
set_option maxRecDepth 20000
open Go.RowKit

theorem equal_any (x y:Value) (xs ys:Lq) (w:World) (hx:Reads w x xs) (hy:Reads w y ys):
    Kc 220 #[x,y] w fun e w'=>e=.returned (.bool (decide (xs=ys)))∧w'=w:=by
  have c1:=conv_reads hx;have c2:=conv_reads hy;have HB:Hid (((strOfNums xs).toList == (strOfNums ys).toList)=decide (xs=ys)):=by
    obtain ⟨_,_,_,_,_,h1,_⟩:=hx;obtain ⟨_,_,_,_,_,h2,_⟩:=hy;exact str_beq xs ys h1 h2
  clear hx hy;go_enter Tryz.func220,Tryz.ntmps220
  go_wp2
  go_ret;exact ⟨by rw [← HB.out];rfl,rfl⟩

end Go.Proofs.YtdjpigfibafokaaGreatDoor

namespace Go.Proofs.YtdjpigfibafokaaGreatDoor
variable {E:List Ent}
variable {K:Lq}
variable {S fr pend ss:List Nat}
variable {cs:Lz}
variable {g gs room:Nat}
variable {v:Value}
variable {w w0:World}
set_option maxHeartbeats 4000000
set_option maxRecDepth 20000
open Go.RowKit

def BesIs (K:Lq) (T:Tre) (h:Nat) (ss:List Nat):Prop:=
  (T.efin K=[]∧ss=T.oth K)∨(∃b,T.efin K=[(K,b)]∧ss=T.oth K)∨(∃k b c,T.efin K=[(k,b)]∧k≠K∧IsCommon K k c∧(T.oth K).length≤c∧c<256∧ss=besX (T.oth K) c (T.fin K h))

theorem bes_ex (W:Wf cs pend) (K:Lq) (hK:Key K) {T:Tre} {h:Nat} (hT:IsT cs h T) (hd:(sdC cs h).kind=2→(sdC cs h).dp=0):∃ss,BesIs K T h ss∧BesOk cs T.ents K ss:=by
  rcases fin_is K T h hT with ⟨f1,f2⟩ | ⟨k,b,f1,f2,f3,f4,f5,f6⟩
  · exact ⟨_,.inl ⟨f2,rfl⟩,bes_own W K hT hd (fun e he=>by rw [f2] at he;cases he)⟩
  · by_cases q:k=K
    · subst q
      exact ⟨_,.inr (.inl ⟨b,f1,rfl⟩),bes_own W k hT hd (fun e he=>by rw [f1] at he;rw [List.mem_singleton.1 he])⟩
    · obtain ⟨c,hc⟩:=common_ex K k
      have hk:Key k:=((tree_ok W T h hT).ent (k,b) (efin_mem K T (k,b) (by rw [f1];simp))).1;have hc2:c<256:=by
        apply Nat.lt_of_not_le;intro h256;have:c=256:=by have:=hc.1;omega
        subst this;exact q (hc.whole hK hk).symm
      obtain ⟨b1,b2⟩:=bes_other W K hT hd f1 c hc hc2;exact ⟨_,.inr (.inr ⟨k,b,c,f1,q,hc,b1,hc2,rfl⟩),b2⟩

theorem beside_any (V:Vw w v true (cot cs) (cat cs)) (W:Wf cs pend) (h:Nat) (T:Tre) (hT:IsT cs h T) (K:Lq) (hK:Key K) (hrd:(sdC cs h).kind=2→(sdC cs h).dp=0) (a:Option Addr) (n c:Nat) (hI:Ints9 w a (T.hs K h)) (hn:n=(T.hs K h).length) (ss:List Nat) (hss:BesIs K T h ss):
    Kc 221 #[v,.agg (B K),.slice a n c,.int .i64 (T.fin K h:Int)] w (BesPost ss w):=by
  have hlen:(T.oth K).length=n:=by rw [hn,Tre.hs_oth]
  have h256:n≤256:=by
    have:=(way_tree W K T h 0 hT hrd (by omega)).2.2;omega
  have hat:∀k,k<n→∃(x o:Nat) (l r q:Int),(∃lb,a=some ⟨lb,0,none⟩∧w.cell? ⟨lb,k,none⟩=some (.int .i64 (x:Int)))∧(T.oth K)[k]?=some o∧(Kr w 132 #[v,.int .i64 (x:Int)] (.tuple #[.int .i64 l,.int .i64 r]))∧∀w',Kc 224 #[.agg (B K),.int .i64 (k:Int),.int .i64 l,.int .i64 r] w' fun e w''=>e=.returned (.tuple #[.int .i64 q,.int .i64 (o:Int)])∧Below w'.heap.size w' w'':=fun k hk=>by
    obtain ⟨x,a1,a2,a3,a4,a5,a6,a7,a8⟩:=hs_at W K T h 0 hT hrd k (by omega);rw [Nat.zero_add] at a5 a6 a7;obtain ⟨lb,e1,e2⟩:=hI k (by omega);have hx:(T.hs K h).getD k 0=x:=by rw [List.getD_eq_getElem?_getD,a1];rfl
    rw [hx] at e2;have hca:=cat_is (cs:=cs) a2;refine ⟨x,_,((ce cs (x-1)).l:Int),((ce cs (x-1)).r:Int),(if kb K k=1 then ((ce cs (x-1)).r:Int) else ((ce cs (x-1)).l:Int)),⟨lb,e1,e2⟩,a7,fun w' hb=>?_,fun w'=>?_⟩
    · have:=sides_any (V.grow hb) (x:Int)
      rwa [hca] at this
    · have:=turned9_any w' K hK k a6 ((ce cs (x-1)).l:Int) ((ce cs (x-1)).r:Int)
      have e:((if kb K k=1 then (ce cs (x-1)).l else (ce cs (x-1)).r:Nat):Int)=if kb K k=1 then ((ce cs (x-1)).l:Int) else ((ce cs (x-1)).r:Int):=by split <;> rfl
      rw [e];exact this
  rcases fin_is K T h hT with ⟨f1,f2⟩ | ⟨k,b,f1,f2,f3,f4,f5,f6⟩
  · rw [f1]
    rcases hss with ⟨_,rfl⟩ | ⟨b,e,_⟩ | ⟨k,b,c',e,_⟩
    · exact beside_none K hK a n c _ hlen h256 hat
    · rw [f2] at e;cases e
    · rw [f2] at e;cases e
  · have hca:=cat_is (cs:=cs) f2
    have hky:Kr w 150 #[v,.int .i64 (T.fin K h:Int)] (.agg (B k)):=fun w' hb=>by
      have:=key_any (V.grow hb) (T.fin K h:Int);rwa [hca,f5] at this
    rcases hss with ⟨e,_⟩ | ⟨b',e,rfl⟩ | ⟨k',b',c',e,e2,e3,e4,e5,rfl⟩
    · rw [f1] at e;cases e
    · rw [f1] at e
      injection e with e _;injection e with e _;subst e;exact beside_own k hK a n c _ hlen h256 hat _ (by omega) hky
    · rw [f1] at e
      injection e with e _;injection e with e _;subst e;have hk:Key k:=((tree_ok W T h hT).ent (k,b) (efin_mem K T (k,b) (by rw [f1];simp))).1;exact beside_other K hK a n c _ hlen h256 hat _ (by omega) k hk e2 hky c' e3 (by rw [← hlen];exact e4) e5

def PlPost (ss:List Nat) (w:World) (e:Ending) (w':World):Prop:=
  ∃a c,e=.returned (.tuple #[.slice a ss.length c,.bool false,.int .i64 0])∧w'.ownsRow w.heap.size 3 1 (.slice a ss.length c) ss.length (nats ss)∧Kb w w'

theorem plan_same (V:Vw w v true (cot cs) (cat cs)) (W:Wf cs pend) (h:Nat) (T:Tre) (hT:IsT cs h T) (K:Lq) (hK:Key K) (he:vRt true (cot cs h) (cat cs h) h=0) (u:Value) (bs:Lq) (hu:Reads w u bs) (hsm:T.efin K=[(K,bs)]):
    Kc 157 #[v,.int .i64 (h:Int),.agg (B K),u] w fun e w'=>e=.returned (.tuple #[.slice none 0 0,.bool true,.int .i64 0])∧Kb w w':=by
  have HFD:Hid (∀w',Kb w w'→Kc 86 #[v,.int .i64 (h:Int),.agg (B K)] w' fun e w''=>∃a n c,e=.returned (.tuple #[.slice a n c,.bool true,.int .i64 0])∧Reads w'' (.slice a n c) bs∧Below w'.heap.size w' w''):=fun w' hb=>by
    have:=find_any (V.grow hb) W h T hT K hK he;rw [hsm] at this;simp only [fnd,if_true] at this;refine this.mono ?_;rintro e w'' ⟨v',sp,rfl,o,b⟩;obtain ⟨a,c,e1,_⟩:=o.reads;subst e1;exact ⟨a,_,c,rfl,o.reads,b⟩
  have HPS:Hid ((Tryz.prog.info? 63).map (·.size)=some (B K).size):=by show _=_;rw [B_size,hK.1];exact size_path
  have HU:=hidden hu;obtain ⟨ua,uc,hue,_⟩:=hu;subst hue;generalize bs.length=un at HU ⊢;have HEQ:Hid (∀w' a n c,Reads w' (.slice a n c) bs→Reads w' (.slice ua un uc) bs→Kc 220 #[.slice a n c,.slice ua un uc] w' fun e w''=>e=.returned (.bool true)∧w''=w'):=fun w' a n c r1 r2=>by
    have:=equal_any _ _ bs bs w' r1 r2;simpa using this
  generalize (h:Int)=hh at HFD ⊢;clear V W hT hK he hsm;go_enter Tryz.func157,Tryz.ntmps157
  go_wp2_with (first
    |((with_reducible refine at_bxd 6 ?_);refine wpList_bx _ rfl _ _ rfl _ rfl ?_;intro w1 b5 hg5 hl5 B5 q5;have HB5:=hidden B5;have HQ5:=hidden q5;clear hg5 hl5 B5 q5)
    |((with_reducible refine at_ldd 19 6 ?_);refine wpList_ld _ rfl _ _ rfl b5 _ rfl HB5.out _ _ Tryz.underlying63 HPS.out ?_)
    |(go_at_call 86;refine (HFD.out _ HQ5.out).mono ?_;rintro e w2 ⟨fa,fn,fc,rfl,r2,b2⟩;have HR2:=hidden r2;have HQ2:=hidden (grow_trans HQ5.out b2);clear r2 b2)
    |(go_at_call 220;refine (HEQ.out _ _ _ _ HR2.out (HU.out.grow HQ2.out)).mono ?_;rintro e w' ⟨rfl,hx⟩;rw [hx];clear hx w'))
  go_ret3;exact ⟨rfl,HQ2.out⟩

theorem plan_new (V:Vw w v true (cot cs) (cat cs)) (W:Wf cs pend) (h:Nat) (T:Tre) (hT:IsT cs h T) (K:Lq) (hK:Key K) (he:vRt true (cot cs h) (cat cs h) h=0) (u:Value) (bs:Lq) (hu:Reads w u bs) (hne:T.efin K≠[(K,bs)]) (ss:List Nat) (hss:BesIs K T h ss) (h257:ss.length≤256) (hct:∀i,cc cs i<1073741824):
    Kc 157 #[v,.int .i64 (h:Int),.agg (B K),u] w (PlPost ss w):=by
  have hrd:=root_dp hT he;have HPS:Hid ((Tryz.prog.info? 63).map (·.size)=some (B K).size):=by show _=_;rw [B_size,hK.1];exact size_path
  have HHD:Hid (∀w',Kb w w'→Kc 148 #[v,.int .i64 (h:Int),.agg (B K)] w' (HdPost (T.hs K h) (T.fin K h) w')):=fun w' hb=>handles_any (V.grow hb) W h T hT K hK he
  have HBS:Hid (∀w' a c,Kb w w'→Ints9 w' a (T.hs K h)→Kc 221 #[v,.agg (B K),.slice a (T.hs K h).length c,.int .i64 (T.fin K h:Int)] w' (BesPost ss w')):=fun w' a c hb hi=>beside_any (V.grow hb) W h T hT K hK hrd a _ c hi rfl ss hss
  have hct2:∀q,cot cs q<1073741824:=fun q=>by
    unfold cot;split
    · exact hct _
    · omega
  have h256:(T.hs K h).length≤256:=by
    have:=(way_tree W K T h 0 hT hrd (by omega)).2.2;rw [Tre.hs_oth];omega
  have HCN:Hid (∀w' a1 a2 c1 c2,Kb w w'→Ints9 w' a1 (T.hs K h)→Ints9 w' a2 ss→Kc 222 #[v,.slice a1 (T.hs K h).length c1,.slice a2 ss.length c2] w' fun e w''=>e=.returned (.bool true)∧Below w'.heap.size w' w''):=fun w' a1 a2 c1 c2 hb i1 i2=>countable_any (V.grow hb) hct2 a1 a2 _ _ c1 c2 _ _ i1 i2 rfl rfl h256 (by omega)
  have HPost:Hid (∀a c w',w'.ownsRow w.heap.size 3 1 (.slice a ss.length c) ss.length (nats ss)→Kb w w'→PlPost ss w (.returned (.tuple #[.slice a ss.length c,.bool false,.int .i64 0])) w'):=fun a c w' h1 h2=>⟨a,c,rfl,h1,h2⟩
  have hfin:=find_any V W h T hT K hK he;have HFD:Hid (∀w',Kb w w'→Kc 86 #[v,.int .i64 (h:Int),.agg (B K)] w' fun e w''=>∃a n c,e=.returned (.tuple #[.slice a n c,.bool (fnd (T.efin K) K).2,.int .i64 0])∧Reads w'' (.slice a n c) (fnd (T.efin K) K).1∧Below w'.heap.size w' w''):=fun w' hb=>by
    refine (find_any (V.grow hb) W h T hT K hK he).mono ?_;rintro e w'' ⟨v',sp,rfl,o,b⟩;obtain ⟨a,c,e1,_⟩:=o.reads;subst e1;exact ⟨a,_,c,rfl,o.reads,b⟩
  have hfe:(fnd (T.efin K) K).2=true→(fnd (T.efin K) K).1≠bs:=fun h2 e=>by
    rcases fin_is K T h hT with ⟨f1,f2⟩ | ⟨k,b,f1,f2,f3,f4,f5,f6⟩
    · rw [f2] at h2
      cases h2
    · rw [f1] at h2 e hne
      by_cases q:k=K
      · simp only [fnd,q,if_true] at e
        exact hne (by rw [q,e])
      · simp [fnd,q] at h2
  have HU:=hidden hu;obtain ⟨ua,uc,hue,_⟩:=hu;subst hue;generalize bs.length=un at HU ⊢;have HEQ:Hid ((fnd (T.efin K) K).2=true→∀w' a n c,Reads w' (.slice a n c) (fnd (T.efin K) K).1→Reads w' (.slice ua un uc) bs→Kc 220 #[.slice a n c,.slice ua un uc] w' fun e w''=>e=.returned (.bool false)∧w''=w'):=fun h2 w' a n c r1 r2=>by
    have:=equal_any _ _ _ bs w' r1 r2;simpa [hfe h2] using this
  generalize (fnd (T.efin K) K).1=fb at HFD HEQ;generalize (fnd (T.efin K) K).2=fd at HFD HEQ;generalize (h:Int)=hh at HFD HHD ⊢;generalize (T.fin K h:Int)=fin at HHD HBS;have HHE:Hid (∀w',Kb w w'→Kc 148 #[v,.int .i64 hh,.agg (B K)] w' fun e w''=>∃a c,e=.returned (.tuple #[.slice a (T.hs K h).length c,.int .i64 fin,.int .i64 0])∧Ints9 w'' a (T.hs K h)∧Below w'.heap.size w' w''):=fun w' hb=>(HHD.out w' hb).mono fun e w'' ⟨a,c,e1,o,b⟩=>⟨a,c,e1,ints9_lst (owR_lst o) rfl,b⟩
  have HBE:Hid (∀w' a c,Kb w w'→Ints9 w' a (T.hs K h)→Kc 221 #[v,.agg (B K),.slice a (T.hs K h).length c,.int .i64 fin] w' fun e w''=>∃a c,e=.returned (.slice a ss.length c)∧w''.ownsRow w'.heap.size 3 1 (.slice a ss.length c) ss.length (nats ss)∧Below w'.heap.size w' w''):=HBS;generalize PlPost ss w=P at HPost ⊢;generalize T.hs K h=hs at HHE HBE HCN;generalize hs.length=hn at HHE HBE HCN;have HIN:Hid (∀w' b a c,w'.ownsRow b 3 1 (.slice a ss.length c) ss.length (nats ss)→Ints9 w' a ss):=fun w' b a c o=>ints9_lst (owR_lst o) rfl
  generalize ss.length=sn at HBE HCN HPost HIN;clear V W hT hK he hne hss h257 hct hct2 hrd HHD HBS h256 hfe hfin;cases fd with
  | true=>
    have HE:=hidden (HEQ.out rfl);clear HEQ;go_enter Tryz.func157,Tryz.ntmps157
    go_wp2_with (first
      |((with_reducible refine at_bxd 6 ?_);refine wpList_bx _ rfl _ _ rfl _ rfl ?_;intro w1 b5 hg5 hl5 B5 q5;have HB5:=hidden B5;have HQ5:=hidden q5;clear hg5 hl5 B5 q5)
      |((with_reducible refine at_ldd 19 6 ?_);refine wpList_ld _ rfl _ _ rfl b5 _ rfl HB5.out _ _ Tryz.underlying63 HPS.out ?_)
      |(go_at_call 86;refine (HFD.out _ HQ5.out).mono ?_;rintro e w2 ⟨fa,fn,fc,rfl,r2,b2⟩;have HR2:=hidden r2;have HQ2:=hidden (grow_trans HQ5.out b2);have HB2:=hidden (HB5.out.grow b2);clear r2 b2)
      |(go_at_call 220;refine (HE.out _ _ _ _ HR2.out (HU.out.grow HQ2.out)).mono ?_;rintro e w' ⟨rfl,hx⟩;rw [hx];clear hx w')
      |((with_reducible refine at_ldd 33 6 ?_);refine wpList_ld _ rfl _ _ rfl b5 _ rfl HB2.out _ _ Tryz.underlying63 HPS.out ?_)
      |(go_at_call 148;refine (HHE.out _ HQ2.out).mono ?_;rintro e w3 ⟨ha,hc,rfl,i3,b3⟩;have HI3:=hidden i3;have HQ3:=hidden (grow_trans HQ2.out b3);have HB3:=hidden (HB2.out.grow b3);clear i3 b3)
      |((with_reducible refine at_ldd 39 6 ?_);refine wpList_ld _ rfl _ _ rfl b5 _ rfl HB3.out _ _ Tryz.underlying63 HPS.out ?_)
      |(go_at_call 221;refine (HBE.out _ _ _ HQ3.out HI3.out).mono ?_;rintro e w4 ⟨sa,sc,rfl,o4,b4⟩;have HO4:=hidden (owR_base o4 HQ3.out.size);have HI4:=hidden (HI3.out.grow b4);have HQ4:=hidden (grow_trans HQ3.out b4);clear o4 b4)
      |(go_at_call 222;refine (HCN.out _ _ _ _ _ HQ4.out HI4.out (HIN.out _ _ _ _ HO4.out)).mono ?_;rintro e w5 ⟨rfl,b5⟩;have HO5:=hidden (owR_grow HO4.out b5);have HQ5':=hidden (grow_trans HQ4.out b5);clear b5))
    go_ret3;exact HPost.out _ _ _ HO5.out HQ5'.out
  | false=>
    clear HEQ;go_enter Tryz.func157,Tryz.ntmps157
    go_wp2_with (first
      |((with_reducible refine at_bxd 6 ?_);refine wpList_bx _ rfl _ _ rfl _ rfl ?_;intro w1 b5 hg5 hl5 B5 q5;have HB5:=hidden B5;have HQ5:=hidden q5;clear hg5 hl5 B5 q5)
      |((with_reducible refine at_ldd 19 6 ?_);refine wpList_ld _ rfl _ _ rfl b5 _ rfl HB5.out _ _ Tryz.underlying63 HPS.out ?_)
      |(go_at_call 86;refine (HFD.out _ HQ5.out).mono ?_;rintro e w2 ⟨fa,fn,fc,rfl,r2,b2⟩;have HQ2:=hidden (grow_trans HQ5.out b2);have HB2:=hidden (HB5.out.grow b2);clear r2 b2)
      |((with_reducible refine at_ldd 33 6 ?_);refine wpList_ld _ rfl _ _ rfl b5 _ rfl HB2.out _ _ Tryz.underlying63 HPS.out ?_)
      |(go_at_call 148;refine (HHE.out _ HQ2.out).mono ?_;rintro e w3 ⟨ha,hc,rfl,i3,b3⟩;have HI3:=hidden i3;have HQ3:=hidden (grow_trans HQ2.out b3);have HB3:=hidden (HB2.out.grow b3);clear i3 b3)
      |((with_reducible refine at_ldd 39 6 ?_);refine wpList_ld _ rfl _ _ rfl b5 _ rfl HB3.out _ _ Tryz.underlying63 HPS.out ?_)
      |(go_at_call 221;refine (HBE.out _ _ _ HQ3.out HI3.out).mono ?_;rintro e w4 ⟨sa,sc,rfl,o4,b4⟩;have HO4:=hidden (owR_base o4 HQ3.out.size);have HI4:=hidden (HI3.out.grow b4);have HQ4:=hidden (grow_trans HQ3.out b4);clear o4 b4)
      |(go_at_call 222;refine (HCN.out _ _ _ _ _ HQ4.out HI4.out (HIN.out _ _ _ _ HO4.out)).mono ?_;rintro e w5 ⟨rfl,b5⟩;have HO5:=hidden (owR_grow HO4.out b5);have HQ5':=hidden (grow_trans HQ4.out b5);clear b5))
    go_ret3;exact HPost.out _ _ _ HO5.out HQ5'.out

end Go.Proofs.YtdjpigfibafokaaGreatDoor

namespace Go.Proofs.YtdjpigfibafokaaGreatDoor
variable {E:List Ent}
variable {K:Lq}
variable {S fr pend ss:List Nat}
variable {cs:Lz}
variable {g gs room:Nat}
variable {v:Value}
variable {w w0:World}
set_option maxHeartbeats 4000000
set_option maxRecDepth 20000
open Go.RowKit

theorem put_same (H:Hs w0 S w g gs room cs fr) (h:Nat) (T:Tre) (hT:IsT cs h T) (K:Lq) (hK:Key K) (u:Value) (bs:Lq) (hu:Reads w u bs) (he:vRf true (cot cs h) (cat cs h) h bs.length=0) (hr:vRt true (cot cs h) (cat cs h) h=0) (hf:noc cs+258≤room) (hsm:T.efin K=[(K,bs)]):Kc 90 #[.pointer (some ⟨g,0,none⟩),.int .i64 (h:Int),.agg (B K),u] w fun e w'=>e=.returned (.tuple #[.int .i64 (h:Int),.int .i64 0])∧Kb w w':=by
  have HPN:Hid (Kr w 157 #[.pointer (some ⟨g,0,none⟩),.int .i64 (h:Int),.agg (B K),u] (.tuple #[.slice none 0 0,.bool true,.int .i64 0])):=fun w' hb=>plan_same (H.vw.grow hb) H.2 h T hT K hK hr u bs (hu.grow hb) hsm
  obtain ⟨a,c,hue,_⟩:=hu;subst hue;have HRF:Hid (Kr w 155 #[.pointer (some ⟨g,0,none⟩),.int .i64 (h:Int),.slice a bs.length c] (.int .i64 0)):=fun w' hb=>by
    have:=refusal_any (H.vw.grow hb) h a bs.length c;rwa [he] at this
  have HFT:Hid (Kr w 156 #[.pointer (some ⟨g,0,none⟩),.int .i64 1] (.bool true)):=fun w' hb=>by
    have:=fits9_any (H.grow hb) 1;rwa [show fitsN (noc cs) room 1=true by simp [fitsN];omega] at this
  have HPS:Hid ((Tryz.prog.info? 63).map (·.size)=some (B K).size):=by show _=_;rw [B_size,hK.1];exact size_path
  generalize (h:Int)=hh at HPN HRF ⊢;generalize bs.length=n at HPN HRF ⊢;clear H he hf hT hK hr hsm;go_enter Tryz.func90,Tryz.ntmps90
  go_wp2_with (first
    |((with_reducible refine at_bxd 6 ?_);refine wpList_bx _ rfl _ _ rfl _ rfl ?_;intro w1 b5 hg5 hl5 B5 q5;have HB5:=hidden B5;have HQ5:=hidden q5;clear hg5 hl5 B5 q5)
    |(go_at_call 155;refine (HRF.out _ HQ5.out).mono ?_;rintro e w2 ⟨rfl,b2⟩;have HQ2:=hidden (grow_trans HQ5.out b2);have HB2:=hidden (HB5.out.grow b2);clear b2)
    |(go_at_call 156;refine (HFT.out _ HQ2.out).mono ?_;rintro e w3 ⟨rfl,b3⟩;have HQ3:=hidden (grow_trans HQ2.out b3);have HB3:=hidden (HB2.out.grow b3);clear b3)
    |((with_reducible refine at_ldd 29 6 ?_);refine wpList_ld _ rfl _ _ rfl b5 _ rfl HB3.out _ _ Tryz.underlying63 HPS.out ?_)
    |(go_at_call 157;refine (HPN.out _ HQ3.out).mono ?_;rintro e w4 ⟨rfl,b4⟩;have HQ4:=hidden (grow_trans HQ3.out b4);clear b4))
  go_ret2;exact ⟨rfl,HQ4.out⟩

def PutTo (cs:Lz) (fr:List Nat) (root:Nat) (K bs:Lq) (ss:List Nat) (top:Nat) (cs':Lz) (fr':List Nat):Prop:=
  ∃(v':Value) (cs2:Lz) (fr2:List Nat),CeOk (lfC (lfD K (vaD bs)) K v' bs)∧Rz K ss (tkC (holdM cs ss) fr (1,lfC (lfD K (vaD bs)) K v' bs)) fr.dropLast (tkH (holdM cs ss) fr) cs2 fr2 top∧((root=0∧cs'=cs2∧fr'=fr2)∨(1≤root∧∃n,Run cs2 fr2 [root] cs' fr' n))

def PtPost (w0:World) (S:List Nat) (g gs room:Nat) (cs:Lz) (fr:List Nat) (E:List Ent) (root:Nat) (K bs:Lq) (ss:List Nat) (e:Ending) (w':World):Prop:=
  ∃(top:Nat) (cs':Lz) (fr':List Nat),e=.returned (.tuple #[.int .i64 (top:Int),.int .i64 0])∧PutTo cs fr root K bs ss top cs' fr'∧PutOk cs E K bs root top ss cs'∧Hs w0 S w' g gs room cs' fr'

theorem bes_valid (b:BesOk cs E K ss):∀x∈ss,x=0∨0<cc cs (x-1):=fun x hx=>by
  obtain ⟨d,hd,e⟩:=List.getElem_of_mem hx;obtain ⟨V,v1,_⟩:=b.side d hd;have:ss.getD d 0=x:=by rw [List.getD_eq_getElem?_getD,List.getElem?_eq_getElem hd];exact e
  rw [this] at v1;rcases v1.occ with q | q
  · exact .inl q
  · exact .inr q.2

theorem put_new {S0:List Nat} (H0:Hs w0 S0 w g gs room cs fr) (h:Nat) (T:Tre) (hT:IsT cs h T) (K:Lq) (hK:Key K) (u:Value) (bs:Lq) (hu0:Kq S0 w0 (fun w'=>Reads w' u bs)) (hL0:Kq S0 w0 Laid) (he:vRf true (cot cs h) (cat cs h) h bs.length=0) (hl:bs.length≤1024) (hr:vRt true (cot cs h) (cat cs h) h=0) (ho:h=0∨0<own cs [] (h-1)) (hf:noc cs+258≤room) (hne:T.efin K≠[(K,bs)]) (ss:List Nat) (hss:BesIs K T h ss) (hbo:BesOk cs T.ents K ss) (hct:∀i,cc cs i+257<1073741824):
    Kc 90 #[.pointer (some ⟨g,0,none⟩),.int .i64 (h:Int),.agg (B K),u] w (PtPost w0 S0 g gs room cs fr T.ents h K bs ss):=by
  have h256:=hbo.len;obtain ⟨S,H,hN,hkq,hS,hbk⟩:=H0.from
  have hu:=hkq _ hu0;have hL:=hkq _ hL0;have hW:=H.2;have hmk:=hm_ok hW ss.length ss rfl (bes_valid hbo);have HPN:Hid (∀w',Kb w w'→Kc 157 #[.pointer (some ⟨g,0,none⟩),.int .i64 (h:Int),.agg (B K),u] w' fun e w''=>∃a c,e=.returned (.tuple #[.slice a ss.length c,.bool false,.int .i64 0])∧w''.ownsRow w'.heap.size 3 1 (.slice a ss.length c) ss.length (nats ss)∧Below w'.heap.size w' w''):=fun w' hb=>plan_new (H.vw.grow hb) H.2 h T hT K hK hr u bs (hu.now.grow hb) hne ss hss h256 (fun i=>by have:=hct i;omega)
  have HHA:Hid (∀w4 a c,Kb w w4→w4.ownsRow w.heap.size 3 1 (.slice a ss.length c) ss.length (nats ss)→Kc 158 #[.pointer (some ⟨g,0,none⟩),.slice a ss.length c] w4 fun e w5=>e=.returned (.slice none 0 0)∧Hs w4 S w5 g gs room (holdM cs ss) fr):=fun w4 a c hb o=>holdAll_any (H.rebase hb) a _ c ss (ints9_kq o rfl (fun k hk hm=>by have:=(o.lt k hk).1;have:=hS k hm;omega)) rfl (by omega) (bes_valid hbo) (fun _ i=>by have:=hct i;omega)
  have HRA:Hid (∀w4 a c w5,Kb w w4→w4.ownsRow w.heap.size 3 1 (.slice a ss.length c) ss.length (nats ss)→Hs w4 S w5 g gs room (holdM cs ss) fr→Kc 159 #[.pointer (some ⟨g,0,none⟩),.agg (B K),u,.slice a ss.length c] w5 fun e w6=>∃top:Nat,e=.returned (.int .i64 (top:Int))∧∃v' cs2 fr2,CeOk (lfC (lfD K (vaD bs)) K v' bs)∧Rz K ss (tkC (holdM cs ss) fr (1,lfC (lfD K (vaD bs)) K v' bs)) fr.dropLast (tkH (holdM cs ss) fr) cs2 fr2 top∧RzI cs T.ents K bs ss 0 cs2 top∧Hs w S w6 g gs room cs2 fr2):=fun w4 a c w5 hb o h5=>by
    have i4:Kq S w4 (fun w'=>Ints9 w' a ss):=ints9_kq o rfl (fun k hk hm=>by have:=(o.lt k hk).1;have:=hS k hm;omega);obtain ⟨S5,H5,hN5,hkq5,hS5,hbk5⟩:=h5.from
    refine (raise_any H5 hS5 hW hK hbo hmk hf a _ c rfl (hkq5 _ i4) (hkq5 _ (hL.grow hb)) u (hkq5 _ (hu.grow hb)) hl).mono ?_;rintro e w6 ⟨top,v',cs2,fr2,rfl,r1,r2,r3,r4⟩;exact ⟨top,rfl,v',cs2,fr2,r1,r2,r3,Hs.back hb (hbk5 _ _ _ r4)⟩
  have HDR:Hid (∀w6 (top:Nat),(∃v' cs2 fr2,CeOk (lfC (lfD K (vaD bs)) K v' bs)∧Rz K ss (tkC (holdM cs ss) fr (1,lfC (lfD K (vaD bs)) K v' bs)) fr.dropLast (tkH (holdM cs ss) fr) cs2 fr2 top∧RzI cs T.ents K bs ss 0 cs2 top∧Hs w S w6 g gs room cs2 fr2)→Kc 97 #[.pointer (some ⟨g,0,none⟩),.int .i64 (h:Int)] w6 fun e w7=>∃x y:Int,e=.returned (.tuple #[.int .i64 x,.int .i64 y])∧∃cs' fr',PutTo cs fr h K bs ss top cs' fr'∧PutOk cs T.ents K bs h top ss cs'∧Hs w S w7 g gs room cs' fr'):=fun w6 top ⟨v',cs2,fr2,r1,r2,r3,r4⟩=>by
    by_cases h0:h=0
    · subst h0
      refine (hs_drop_miss r4 0 (by show (0:Nat)≤_;exact Nat.zero_le _)).mono ?_;rintro e w7 ⟨rfl,h7⟩;exact ⟨0,7,rfl,cs2,fr2,⟨v',cs2,fr2,r1,r2,.inl ⟨rfl,rfl,rfl⟩⟩,put_ok0 r3,h7⟩
    · have ho1:=ho.resolve_left h0
      have ho2:0<own cs2 [] (h-1):=by
        have:=r3.own (h-1);rw [List.take_zero,List.count_nil] at this;omega
      have hd:=hs_drop r4 (h-1) ho2;rw [show h-1+1=h by omega] at hd;refine hd.mono ?_;rintro e w7 ⟨cs',fr',k,hrun,hst,rfl,h7⟩;exact ⟨_,_,rfl,cs',fr',⟨v',cs2,fr2,r1,r2,.inr ⟨by omega,k,hrun⟩⟩,put_ok1 r3 ho1 (by omega) hrun hst,h7⟩
  have HH2:Hid (∀w7 (top:Nat),(∃cs' fr',PutTo cs fr h K bs ss top cs' fr'∧PutOk cs T.ents K bs h top ss cs'∧Hs w S w7 g gs room cs' fr')→Kc 158 #[.pointer (some ⟨g,0,none⟩),.slice none 0 0] w7 fun e w8=>e=.returned (.slice none 0 0)∧∃cs' fr',PutTo cs fr h K bs ss top cs' fr'∧PutOk cs T.ents K bs h top ss cs'∧Hs w S w8 g gs room cs' fr'):=fun w7 top ⟨cs',fr',p1,p2,p3⟩=>by
    obtain ⟨S7,H7,hN7,hkq7,hS7,hbk7⟩:=p3.from
    refine (holdAll_any H7 none 0 0 [] (fun _ _ k hk=>absurd hk (by simp)) rfl (by omega) (fun x hx=>by cases hx) (fun q=>by omega)).mono ?_;rintro e w8 ⟨rfl,h8⟩;exact ⟨rfl,cs',fr',p1,p2,hbk7 _ _ _ h8⟩
  have HRF:Hid (Kr w 155 #[.pointer (some ⟨g,0,none⟩),.int .i64 (h:Int),u] (.int .i64 0)):=fun w' hb=>by
    obtain ⟨a,c,hue,_⟩:=hu.now;have:=refusal_any (H.vw.grow hb) h a bs.length c;rw [he] at this;rw [hue];exact this
  have HFT:Hid (Kr w 156 #[.pointer (some ⟨g,0,none⟩),.int .i64 1] (.bool true)):=fun w' hb=>by
    have:=fits9_any (H.grow hb) 1;rwa [show fitsN (noc cs) room 1=true by simp [fitsN];omega] at this
  have HPS:Hid ((Tryz.prog.info? 63).map (·.size)=some (B K).size):=by show _=_;rw [B_size,hK.1];exact size_path
  have HPost:Hid (∀w8 (top:Nat),(∃cs' fr',PutTo cs fr h K bs ss top cs' fr'∧PutOk cs T.ents K bs h top ss cs'∧Hs w S w8 g gs room cs' fr')→PtPost w0 S0 g gs room cs fr T.ents h K bs ss (.returned (.tuple #[.int .i64 (top:Int),.int .i64 0])) w8):=fun w8 top ⟨cs',fr',p1,p2,p3⟩=>⟨top,cs',fr',rfl,p1,p2,hbk _ _ _ p3⟩
  have HBK:Hid (∀w4 w5 b6,Kb w w4→w.heap.size≤b6→Blk w4 b6 63 (B K)→Hs w4 S w5 g gs room (holdM cs ss) fr→Blk w5 b6 63 (B K)):=fun w4 w5 b6 hb hg hB h5=>h5.kq (Kq.blk hB (fun e=>by have:=hS _ e;omega))
  obtain ⟨ua,uc,hue,_⟩:=hu.now;clear hu hu0 hL hL0;subst hue;obtain ⟨R7,hR7⟩:∃R7:World→Nat→Prop,R7=fun w7 top=>∃cs' fr',PutTo cs fr h K bs ss top cs' fr'∧PutOk cs T.ents K bs h top ss cs'∧Hs w S w7 g gs room cs' fr':=⟨_,rfl⟩
  obtain ⟨R6,hR6⟩:∃R6:World→Nat→Prop,R6=fun w6 top=>∃v' cs2 fr2,CeOk (lfC (lfD K (vaD bs)) K v' bs)∧Rz K ss (tkC (holdM cs ss) fr (1,lfC (lfD K (vaD bs)) K v' bs)) fr.dropLast (tkH (holdM cs ss) fr) cs2 fr2 top∧RzI cs T.ents K bs ss 0 cs2 top∧Hs w S w6 g gs room cs2 fr2:=⟨_,rfl⟩
  obtain ⟨R5,hR5⟩:∃R5:World→World→Prop,R5=fun w4 w5=>Hs w4 S w5 g gs room (holdM cs ss) fr:=⟨_,rfl⟩
  replace HHA:Hid (∀w4 a c,Kb w w4→w4.ownsRow w.heap.size 3 1 (.slice a ss.length c) ss.length (nats ss)→Kc 158 #[.pointer (some ⟨g,0,none⟩),.slice a ss.length c] w4 fun e w5=>e=.returned (.slice none 0 0)∧R5 w4 w5):=by rw [hR5];exact HHA
  replace HRA:Hid (∀w4 a c w5,Kb w w4→w4.ownsRow w.heap.size 3 1 (.slice a ss.length c) ss.length (nats ss)→R5 w4 w5→Kc 159 #[.pointer (some ⟨g,0,none⟩),.agg (B K),.slice ua bs.length uc,.slice a ss.length c] w5 fun e w6=>∃top:Nat,e=.returned (.int .i64 (top:Int))∧R6 w6 top):=by rw [hR5,hR6];exact HRA
  replace HDR:Hid (∀w6 (top:Nat),R6 w6 top→Kc 97 #[.pointer (some ⟨g,0,none⟩),.int .i64 (h:Int)] w6 fun e w7=>∃x y:Int,e=.returned (.tuple #[.int .i64 x,.int .i64 y])∧R7 w7 top):=by rw [hR6,hR7];exact HDR
  replace HH2:Hid (∀w7 (top:Nat),R7 w7 top→Kc 158 #[.pointer (some ⟨g,0,none⟩),.slice none 0 0] w7 fun e w8=>e=.returned (.slice none 0 0)∧R7 w8 top):=by rw [hR7];exact HH2
  replace HPost:Hid (∀w8 (top:Nat),R7 w8 top→PtPost w0 S0 g gs room cs fr T.ents h K bs ss (.returned (.tuple #[.int .i64 (top:Int),.int .i64 0])) w8):=by rw [hR7];exact HPost
  replace HBK:Hid (∀w4 w5 b6,Kb w w4→w.heap.size≤b6→Blk w4 b6 63 (B K)→R5 w4 w5→Blk w5 b6 63 (B K)):=by rw [hR5];exact HBK
  generalize PtPost w0 S0 g gs room cs fr T.ents h K bs ss=P at HPost ⊢;generalize (h:Int)=hh at HPN HRF HDR ⊢;generalize bs.length=un at HPN HRF HRA ⊢;generalize nats ss=nss at HPN HHA HRA;generalize ss.length=sn at HPN HHA HRA;clear hR7 hR6 hR5 H0 H hN hkq hS hbk hW hmk hT hK he hl hr ho hf hne hss hbo hct h256;go_enter Tryz.func90,Tryz.ntmps90
  go_wp2_with (first
    |((with_reducible refine at_bxd 6 ?_);refine wpList_bx _ rfl _ _ rfl _ rfl ?_;intro w1 b5 hg5 hl5 B5 q5;have HB5:=hidden B5;have HQ5:=hidden q5;have HG5:=hidden hg5;clear hg5 hl5 B5 q5)
    |(go_at_call 155;refine (HRF.out _ HQ5.out).mono ?_;rintro e w2 ⟨rfl,b2⟩;have HQ2:=hidden (grow_trans HQ5.out b2);have HB2:=hidden (HB5.out.grow b2);clear b2)
    |(go_at_call 156;refine (HFT.out _ HQ2.out).mono ?_;rintro e w3 ⟨rfl,b3⟩;have HQ3:=hidden (grow_trans HQ2.out b3);have HB3:=hidden (HB2.out.grow b3);clear b3)
    |((with_reducible refine at_ldd 29 6 ?_);refine wpList_ld _ rfl _ _ rfl b5 _ rfl HB3.out _ _ Tryz.underlying63 HPS.out ?_)
    |(go_at_call 157;refine (HPN.out _ HQ3.out).mono ?_;rintro e w4 ⟨sa,sc,rfl,o4,b4⟩;have HO4:=hidden (owR_base o4 HQ3.out.size);have HQ4:=hidden (grow_trans HQ3.out b4);have HB4:=hidden (HB3.out.grow b4);clear b4 o4)
    |(go_at_call 158;have mk:=mk1;clear mk;refine (HH2.out _ _ HR7.out).mono ?_;rintro e w8 ⟨rfl,r8⟩;have HR8:=hidden r8;clear r8)
    |(go_at_call 158;refine (HHA.out _ _ _ HQ4.out HO4.out).mono ?_;rintro e w5 ⟨rfl,r5⟩;have HR5:=hidden r5;have HB6:=hidden (HBK.out _ _ _ HQ4.out HG5.out HB4.out r5);clear r5;have mk1:Hid True:=trivial)
    |((with_reducible refine at_ldd 44 6 ?_);refine wpList_ld _ rfl _ _ rfl b5 _ rfl HB6.out _ _ Tryz.underlying63 HPS.out ?_)
    |(go_at_call 159;refine (HRA.out _ _ _ _ HQ4.out HO4.out HR5.out).mono ?_;rintro e w6 ⟨top,rfl,r6⟩;have HR6:=hidden r6;clear r6)
    |(go_at_call 97;refine (HDR.out _ _ HR6.out).mono ?_;rintro e w7 ⟨x7,y7,rfl,r7⟩;have HR7:=hidden r7;clear r7))
  exact HPost.out _ _ HR8.out

end Go.Proofs.YtdjpigfibafokaaGreatDoor

namespace Go.Proofs.YtdjpigfibafokaaGreatDoor
variable {E:List Ent}
variable {K:Lq}
variable {S fr pend ss:List Nat}
variable {cs:Lz}
variable {g gs room:Nat}
variable {v:Value}
variable {w w0:World}
set_option maxHeartbeats 4000000
set_option maxRecDepth 20000
open Go.RowKit

def kyB (b:Int):Lq:=b::List.replicate 31 0
end Go.Proofs.YtdjpigfibafokaaGreatDoor
