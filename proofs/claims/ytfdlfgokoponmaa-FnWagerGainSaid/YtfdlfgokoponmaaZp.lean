/- The program's contracts on wagers. No condition but theirs. -/
import Derived.Test.YtfdlfgokoponmaaZpb
